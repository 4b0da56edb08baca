/-
  Names: bytes, labels, the order.
-/
import Derived.Test.YthghohgjedjpbaaCluT1
namespace Go.Proofs.Ythghohgjedjpbaa
open Go.RowKit
set_option linter.unusedVariables false
/-! folded bytes -/
def lowB (c : Nat) : Nat := if 65 ≤ c ∧ c ≤ 90 then c + 32 else c
def low (l : List Nat) : List Nat := l.map lowB
def upB (c : Nat) : Bool := decide (65 ≤ c) && decide (c ≤ 90)
theorem lowB_not {c : Nat} (h : upB c = false) : lowB c = c := by
  unfold upB at h; unfold lowB
  simp only [Bool.and_eq_false_iff, decide_eq_false_iff_not] at h
  rw [if_neg]; omega
theorem low_not {l : List Nat} (h : l.any upB = false) : low l = l := by
  unfold low
  rw [List.any_eq_false] at h
  exact (List.map_congr_left fun c hc => lowB_not (by simpa using h c hc)).trans (List.map_id l)
theorem low_length (l : List Nat) : (low l).length = l.length := List.length_map ..
theorem low_b8 {l : List Nat} (h : Clu.B8 l) : Clu.B8 (low l) := fun c hc => by
  obtain ⟨d, hd, rfl⟩ := List.mem_map.1 hc
  have := h d hd
  unfold lowB
  split <;> omega
theorem lowB_low (c : Nat) : lowB (lowB c) = lowB c := by
  unfold lowB
  split
  · rw [if_neg (by omega)]
  · rfl
theorem low_low (l : List Nat) : low (low l) = low l := by
  unfold low
  rw [List.map_map]
  exact List.map_congr_left fun c _ => lowB_low c
theorem low_app (l m : List Nat) : low (l ++ m) = low l ++ low m := List.map_append ..
theorem upB_cases {c : Nat} : (upB c = true → 65 ≤ c ∧ c ≤ 90) ∧ (upB c = false → c < 65 ∨ 90 < c) := by
  unfold upB
  constructor
  · intro h; simpa using h
  · intro h
    simp only [Bool.and_eq_false_iff, decide_eq_false_iff_not] at h
    omega
theorem getD_drop {l : List Nat} {i : Nat} (h : i < l.length) : l.drop i = l.getD i 0 :: l.drop (i + 1) := by
  rw [List.getD_eq_getElem?_getD, List.getElem?_eq_getElem h]
  exact List.drop_eq_getElem_cons h
theorem take_succ' {l : List Nat} {i : Nat} (h : i < l.length) : l.take (i + 1) = l.take i ++ [l.getD i 0] := by
  rw [List.getD_eq_getElem?_getD, List.getElem?_eq_getElem h]
  exact (List.take_append_getElem h).symm
/-! labels -/
/-- the labels that bytes say -/
def labsF : Nat → List Nat → Option (List (List Nat))
  | 0, _ => none
  | _ + 1, [] => none
  | f + 1, c :: r => if c = 0 then (if r = [] then some [] else none) else if c ≤ 63 ∧ c ≤ r.length then (labsF f (r.drop c)).map (r.take c :: ·) else none
def labs (l : List Nat) : Option (List (List Nat)) := labsF (l.length + 1) l
theorem labsF_eq : ∀ (f g : Nat) (l : List Nat), l.length < f → l.length < g → labsF f l = labsF g l
  | 0, _, _, h, _ => by omega
  | _, 0, _, _, h => by omega
  | f + 1, g + 1, [], _, _ => rfl
  | f + 1, g + 1, c :: r, h1, h2 => by
    unfold labsF
    rw [labsF_eq f g (r.drop c) (by rw [List.length_drop]; simp at h1; omega) (by rw [List.length_drop]; simp at h2; omega)]
theorem labs_nil : labs [] = none := rfl
theorem labs_zero (r : List Nat) : labs (0 :: r) = if r = [] then some [] else none := rfl
theorem labs_cons {c : Nat} {r : List Nat} (h : c ≠ 0) : labs (c :: r) = if c ≤ 63 ∧ c ≤ r.length then (labs (r.drop c)).map (r.take c :: ·) else none := by
  unfold labs
  rw [List.length_cons, labsF, if_neg h]
  rw [labsF_eq (r.length + 1) ((r.drop c).length + 1) _ (by rw [List.length_drop]; omega) (by omega)]
/-- the bytes of labels -/
def wire : List (List Nat) → List Nat
  | [] => [0]
  | x :: L => x.length :: (x ++ wire L)
def LabOk (L : List (List Nat)) : Prop := ∀ x ∈ L, 1 ≤ x.length ∧ x.length ≤ 63
theorem LabOk.tail {x : List Nat} {L : List (List Nat)} (h : LabOk (x :: L)) : LabOk L := fun y hy => h y (List.mem_cons_of_mem _ hy)
theorem LabOk.head {x : List Nat} {L : List (List Nat)} (h : LabOk (x :: L)) : 1 ≤ x.length ∧ x.length ≤ 63 := h x (List.mem_cons_self ..)
theorem wire_ne (L : List (List Nat)) : wire L ≠ [] := by cases L <;> exact fun h => by cases h
theorem wire_pos (L : List (List Nat)) : 1 ≤ (wire L).length := by cases L <;> simp [wire]
theorem labs_wire : ∀ {L : List (List Nat)}, LabOk L → labs (wire L) = some L
  | [], _ => rfl
  | x :: L, h => by
    have hx := h.head
    rw [wire, labs_cons (by omega), if_pos ⟨hx.2, by rw [List.length_append]; omega⟩, List.drop_left, List.take_left, labs_wire h.tail]
    rfl
theorem wire_labs : ∀ (f : Nat) {l : List Nat} {L : List (List Nat)}, l.length < f → labs l = some L → wire L = l ∧ LabOk L
  | 0, _, _, h, _ => by omega
  | f + 1, [], L, _, h => by cases h
  | f + 1, c :: r, L, hf, h => by
    by_cases h0 : c = 0
    · subst h0
      rw [labs_zero] at h
      split at h
      · rename_i hr
        cases h
        subst hr
        exact ⟨rfl, fun x hx => by cases hx⟩
      · cases h
    · rw [labs_cons h0] at h
      split at h
      · rename_i hc
        cases hm : labs (r.drop c) with
        | none => rw [hm] at h; cases h
        | some M =>
          rw [hm] at h
          cases h
          obtain ⟨h1, h2⟩ := wire_labs f (l := r.drop c) (by rw [List.length_drop]; simp at hf; omega) hm
          have hl : (r.take c).length = c := by rw [List.length_take]; omega
          refine ⟨?_, fun x hx => ?_⟩
          · rw [wire, hl, h1, List.take_append_drop]
          · rcases List.mem_cons.1 hx with rfl | hx
            · omega
            · exact h2 x hx
      · cases h
/-- whether bytes are a name -/
def mayB (l : List Nat) : Bool := decide (l.length ≤ 255) && (labs l).isSome
theorem mayB_iff {l : List Nat} : mayB l = true ↔ ∃ L, l = wire L ∧ LabOk L ∧ l.length ≤ 255 := by
  unfold mayB
  rw [Bool.and_eq_true, decide_eq_true_iff, Option.isSome_iff_exists]
  constructor
  · rintro ⟨h1, L, h2⟩
    obtain ⟨h3, h4⟩ := wire_labs _ (Nat.lt_succ_self _) h2
    exact ⟨L, h3.symm, h4, h1⟩
  · rintro ⟨L, rfl, h2, h3⟩
    exact ⟨h3, L, labs_wire h2⟩
theorem wire_inj {L M : List (List Nat)} (h : LabOk L) (k : LabOk M) (e : wire L = wire M) : L = M := by
  have h1 := labs_wire h
  rw [e, labs_wire k] at h1
  exact (Option.some.inj h1).symm
theorem wire_b8 : ∀ {L : List (List Nat)}, Clu.B8 (wire L) → ∀ x ∈ L, Clu.B8 x
  | [], _, x, hx => by cases hx
  | y :: L, h, x, hx => by
    rcases List.mem_cons.1 hx with rfl | hx
    · exact h.tail.left
    · exact wire_b8 h.tail.right x hx
theorem low_wire : ∀ {L : List (List Nat)}, LabOk L → low (wire L) = wire (L.map low)
  | [], _ => rfl
  | x :: L, h => by
    have hx := h.head
    show lowB x.length :: low (x ++ wire L) = (low x).length :: (low x ++ wire (L.map low))
    rw [low_app, low_wire h.tail, low_length]
    congr 1
    unfold lowB
    rw [if_neg (by omega)]
theorem LabOk.low {L : List (List Nat)} (h : LabOk L) : LabOk (L.map low) := fun x hx => by
  obtain ⟨y, hy, rfl⟩ := List.mem_map.1 hx
  rw [low_length]
  exact h y hy
theorem low_wire_inj {L M : List (List Nat)} (h : LabOk L) (k : LabOk M) : low (wire L) = low (wire M) ↔ L.map low = M.map low := by
  rw [low_wire h, low_wire k]
  exact ⟨fun e => wire_inj h.low k.low e, fun e => by rw [e]⟩
theorem wire_low_length (L : List (List Nat)) : (wire (L.map low)).length = (wire L).length := by
  induction L with
  | nil => rfl
  | cons x L ih => simp [wire, ih, low_length]
theorem wire_app (K L : List (List Nat)) : ∃ p, wire (K ++ L) = p ++ wire L ∧ p.length = (wire K).length - 1 := by
  induction K with
  | nil => exact ⟨[], rfl, rfl⟩
  | cons x K ih =>
    obtain ⟨p, h1, h2⟩ := ih
    refine ⟨x.length :: (x ++ p), ?_, ?_⟩
    · show x.length :: (x ++ wire (K ++ L)) = _
      rw [h1, List.cons_append, List.append_assoc]
    · have := wire_pos K
      simp only [wire, List.length_cons, List.length_append, h2]
      omega
theorem wire_app_length (K L : List (List Nat)) : (wire (K ++ L)).length = (wire K).length - 1 + (wire L).length := by
  obtain ⟨p, h1, h2⟩ := wire_app K L
  rw [h1, List.length_append, h2]
/-! within -/
/-- is the one within the other? -/
def withinL (L Z : List (List Nat)) : Bool := decide (Z.map low <:+ L.map low)
/-- the first labels dropped, as long as there are more bytes than so many -/
def cutTo : List (List Nat) → Nat → List (List Nat)
  | [], _ => []
  | x :: L, k => if k < (wire (x :: L)).length then cutTo L k else x :: L
theorem cutTo_suffix : ∀ (L : List (List Nat)) (k : Nat), cutTo L k <:+ L
  | [], _ => List.suffix_refl _
  | x :: L, k => by
    unfold cutTo
    split
    · exact (cutTo_suffix L k).trans (List.suffix_cons x L)
    · exact List.suffix_refl _
theorem suffix_wire {K L : List (List Nat)} (h : K <:+ L) : (wire K).length ≤ (wire L).length ∧ ((wire K).length = (wire L).length → K = L) := by
  obtain ⟨p, rfl⟩ := h
  rw [wire_app_length]
  refine ⟨by omega, fun e => ?_⟩
  cases p with
  | nil => rfl
  | cons x p =>
    have := wire_pos p
    have h1 : (wire (x :: p)).length = x.length + 1 + (wire p).length := by simp [wire]; omega
    omega
theorem within_cut : ∀ {L Z : List (List Nat)}, (cutTo L (wire Z).length).map low = Z.map low ↔ Z.map low <:+ L.map low
  | [], Z => by
    show ([] : List (List Nat)) = Z.map low ↔ Z.map low <:+ []
    rw [List.suffix_nil]
    exact eq_comm
  | x :: L, Z => by
    unfold cutTo
    split
    · rename_i h
      rw [within_cut (L := L)]
      constructor
      · exact fun k => k.trans (List.suffix_cons (low x) (L.map low))
      · intro k
        rw [List.map_cons] at k
        rcases List.suffix_cons_iff.1 k with e | e
        · have := congrArg (fun l => (wire l).length) e
          simp only [← List.map_cons] at this
          rw [wire_low_length, wire_low_length] at this
          omega
        · exact e
    · rename_i h
      constructor
      · intro e; rw [← e]; exact List.suffix_refl _
      · intro k
        have := suffix_wire k
        rw [wire_low_length, wire_low_length] at this
        exact (this.2 (by omega)).symm
/-! order -/
def cmpN (a b : Nat) : Int := if a < b then -1 else if b < a then 1 else 0
def lexC {α : Type} (c : α → α → Int) : List α → List α → Int
  | [], [] => 0
  | [], _ :: _ => -1
  | _ :: _, [] => 1
  | a :: l, b :: m => if c a b = 0 then lexC c l m else c a b
structure Ord3 {α : Type} (c : α → α → Int) : Prop where
  anti : ∀ a b, c b a = - c a b
  zero : ∀ a b, c a b = 0 ↔ a = b
  trans : ∀ a b d, c a b ≤ 0 → c b d ≤ 0 → c a d ≤ 0
  low : ∀ a b, -1 ≤ c a b
  high : ∀ a b, c a b ≤ 1
theorem cmpN_ord : Ord3 cmpN := by
  refine ⟨fun a b => ?_, fun a b => ?_, fun a b d => ?_, fun a b => ?_, fun a b => ?_⟩ <;> unfold cmpN <;> (repeat' split) <;> omega
theorem Ord3.strict {α : Type} {c : α → α → Int} (o : Ord3 c) {a b d : α} (h : c a b < 0) (k : c b d ≤ 0) : c a d < 0 := by
  have h1 := o.trans a b d (by omega) k
  by_cases h2 : c a d = 0
  · have := (o.zero a d).1 h2
    subst this
    have := o.anti a b
    omega
  · omega
theorem Ord3.strict' {α : Type} {c : α → α → Int} (o : Ord3 c) {a b d : α} (h : c a b ≤ 0) (k : c b d < 0) : c a d < 0 := by
  have h1 := o.trans a b d h (by omega)
  by_cases h2 : c a d = 0
  · have := (o.zero a d).1 h2
    subst this
    have := o.anti a b
    omega
  · omega
section
variable {α : Type} {c : α → α → Int}
theorem lexC_anti (o : Ord3 c) : ∀ l m : List α, lexC c m l = - lexC c l m
  | [], [] => rfl
  | [], _ :: _ => rfl
  | _ :: _, [] => rfl
  | a :: l, b :: m => by
    have h := o.anti a b
    unfold lexC
    by_cases h0 : c a b = 0
    · rw [if_pos h0, if_pos (by omega), lexC_anti o l m]
    · rw [if_neg h0, if_neg (by omega), h]
theorem lexC_zero (o : Ord3 c) : ∀ l m : List α, lexC c l m = 0 ↔ l = m
  | [], [] => by simp [lexC]
  | [], _ :: _ => by simp [lexC]
  | _ :: _, [] => by simp [lexC]
  | a :: l, b :: m => by
    unfold lexC
    by_cases h0 : c a b = 0
    · rw [if_pos h0, lexC_zero o l m, (o.zero a b).1 h0]
      simp
    · rw [if_neg h0]
      have : a ≠ b := fun e => h0 ((o.zero a b).2 e)
      simp [h0, this]
theorem lexC_trans (o : Ord3 c) : ∀ l m n : List α, lexC c l m ≤ 0 → lexC c m n ≤ 0 → lexC c l n ≤ 0
  | [], _, [], _, _ => by simp [lexC]
  | [], _, _ :: _, _, _ => by simp [lexC]
  | _ :: _, [], _, h, _ => by simp [lexC] at h
  | _ :: _, _ :: _, [], _, h => by simp [lexC] at h
  | a :: l, b :: m, d :: n, h, k => by
    unfold lexC at h k ⊢
    by_cases h0 : c a b = 0
    · rw [if_pos h0] at h
      obtain rfl := (o.zero a b).1 h0
      by_cases h1 : c a d = 0
      · rw [if_pos h1] at k ⊢
        exact lexC_trans o l m n h k
      · rw [if_neg h1] at k ⊢
        exact k
    · rw [if_neg h0] at h
      by_cases h1 : c b d = 0
      · obtain rfl := (o.zero b d).1 h1
        rw [if_neg h0]
        exact h
      · rw [if_neg h1] at k
        have := o.strict (a := a) (b := b) (d := d) (by omega) k
        rw [if_neg (by omega)]
        omega
theorem lexC_low (o : Ord3 c) : ∀ l m : List α, -1 ≤ lexC c l m
  | [], [] => by simp [lexC]
  | [], _ :: _ => by simp [lexC]
  | _ :: _, [] => by simp [lexC]
  | a :: l, b :: m => by
    unfold lexC
    split
    · exact lexC_low o l m
    · exact o.low a b
theorem lexC_ord (o : Ord3 c) : Ord3 (lexC c) := ⟨lexC_anti o, lexC_zero o, lexC_trans o, lexC_low o, fun l m => by have := lexC_anti o m l; have := lexC_low o m l; omega⟩
theorem lexC_prefix (o : Ord3 c) : ∀ {p x : List α}, p <+: x → lexC c p x ≤ 0
  | [], [], _ => by simp [lexC]
  | [], _ :: _, _ => by simp [lexC]
  | a :: p, [], h => by simp at h
  | a :: p, b :: x, h => by
    obtain ⟨h1, h2⟩ := List.cons_prefix_cons.1 h
    subst h1
    unfold lexC
    rw [if_pos ((o.zero a a).2 rfl)]
    exact lexC_prefix o h2
theorem lexC_between (o : Ord3 c) : ∀ {p x y z : List α}, p <+: x → p <+: z → lexC c x y ≤ 0 → lexC c y z ≤ 0 → p <+: y
  | [], _, _, _, _, _, _, _ => List.nil_prefix
  | a :: p, [], _, _, h, _, _, _ => by simp at h
  | a :: p, _ :: _, _, [], _, h, _, _ => by simp at h
  | a :: p, b :: x, [], d :: z, h, k, q, _ => by simp [lexC] at q
  | a :: p, b :: x, y0 :: y, d :: z, h, k, q, r => by
    obtain ⟨h1, h2⟩ := List.cons_prefix_cons.1 h
    obtain ⟨k1, k2⟩ := List.cons_prefix_cons.1 k
    subst h1
    subst k1
    unfold lexC at q r
    by_cases h0 : c a y0 = 0
    · obtain rfl := (o.zero a y0).1 h0
      rw [if_pos h0] at q r
      exact List.cons_prefix_cons.2 ⟨rfl, lexC_between o h2 k2 q r⟩
    · have h1 := o.anti a y0
      rw [if_neg h0] at q
      rw [if_neg (by omega)] at r
      omega
end
def cmpS : List Nat → List Nat → Int := lexC cmpN
def cmpW : List (List Nat) → List (List Nat) → Int := lexC cmpS
theorem cmpS_ord : Ord3 cmpS := lexC_ord cmpN_ord
theorem cmpW_ord : Ord3 cmpW := lexC_ord cmpS_ord
/-- the order of names -/
def cmpL (L M : List (List Nat)) : Int := cmpW (L.map low).reverse (M.map low).reverse
end Go.Proofs.Ythghohgjedjpbaa
