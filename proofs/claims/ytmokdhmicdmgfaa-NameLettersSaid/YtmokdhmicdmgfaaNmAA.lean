/-
  NmTh, NmLow, NmFn, NmCm, NmLx, NmR1 in one.
-/
import Derived.Test.YtmokdhmicdmgfaaCluT1
import Derived.Test.YtmokdhmicdmgfaaCluze
import Derived.Test.YtmokdhmicdmgfaaCluH3
namespace Go.Proofs.Ytmokdhmicdmgfaa
open Go.RowKit
set_option linter.unusedVariables false
/-! folded bytes -/
def lowB (c : Nat) : Nat := if 65 ≤ c ∧ c ≤ 90 then c + 32 else c
def low (l : List Nat) : List Nat := l.map lowB
def upB (c : Nat) : Bool := decide (65 ≤ c) && decide (c ≤ 90)
theorem lowB_not {c : Nat} (h : upB c = false) : lowB c = c := by
  unfold upB at h; unfold lowB
  simp only [Bool.and_eq_false_iff, decide_eq_false_iff_not] at h
  rw [if_neg]; omega
theorem low_not {l : List Nat} (h : l.any upB = false) : low l = l := by
  unfold low
  rw [List.any_eq_false] at h
  exact (List.map_congr_left fun c hc => lowB_not (by simpa using h c hc)).trans (List.map_id l)
theorem low_length (l : List Nat) : (low l).length = l.length := List.length_map ..
theorem low_b8 {l : List Nat} (h : Clu.B8 l) : Clu.B8 (low l) := fun c hc => by
  obtain ⟨d, hd, rfl⟩ := List.mem_map.1 hc
  have := h d hd
  unfold lowB
  split <;> omega
theorem lowB_low (c : Nat) : lowB (lowB c) = lowB c := by
  unfold lowB
  split
  · rw [if_neg (by omega)]
  · rfl
theorem low_low (l : List Nat) : low (low l) = low l := by
  unfold low
  rw [List.map_map]
  exact List.map_congr_left fun c _ => lowB_low c
theorem low_app (l m : List Nat) : low (l ++ m) = low l ++ low m := List.map_append ..
theorem upB_cases {c : Nat} : (upB c = true → 65 ≤ c ∧ c ≤ 90) ∧ (upB c = false → c < 65 ∨ 90 < c) := by
  unfold upB
  constructor
  · intro h; simpa using h
  · intro h
    simp only [Bool.and_eq_false_iff, decide_eq_false_iff_not] at h
    omega
theorem getD_drop {l : List Nat} {i : Nat} (h : i < l.length) : l.drop i = l.getD i 0 :: l.drop (i + 1) := by
  rw [List.getD_eq_getElem?_getD, List.getElem?_eq_getElem h]
  exact List.drop_eq_getElem_cons h
theorem take_succ' {l : List Nat} {i : Nat} (h : i < l.length) : l.take (i + 1) = l.take i ++ [l.getD i 0] := by
  rw [List.getD_eq_getElem?_getD, List.getElem?_eq_getElem h]
  exact (List.take_append_getElem h).symm
/-! labels -/
/-- the labels that bytes say -/
def labsF : Nat → List Nat → Option (List (List Nat))
  | 0, _ => none
  | _ + 1, [] => none
  | f + 1, c :: r => if c = 0 then (if r = [] then some [] else none) else if c ≤ 63 ∧ c ≤ r.length then (labsF f (r.drop c)).map (r.take c :: ·) else none
def labs (l : List Nat) : Option (List (List Nat)) := labsF (l.length + 1) l
theorem labsF_eq : ∀ (f g : Nat) (l : List Nat), l.length < f → l.length < g → labsF f l = labsF g l
  | 0, _, _, h, _ => by omega
  | _, 0, _, _, h => by omega
  | f + 1, g + 1, [], _, _ => rfl
  | f + 1, g + 1, c :: r, h1, h2 => by
    unfold labsF
    rw [labsF_eq f g (r.drop c) (by rw [List.length_drop]; simp at h1; omega) (by rw [List.length_drop]; simp at h2; omega)]
theorem labs_nil : labs [] = none := rfl
theorem labs_zero (r : List Nat) : labs (0 :: r) = if r = [] then some [] else none := rfl
theorem labs_cons {c : Nat} {r : List Nat} (h : c ≠ 0) : labs (c :: r) = if c ≤ 63 ∧ c ≤ r.length then (labs (r.drop c)).map (r.take c :: ·) else none := by
  unfold labs
  rw [List.length_cons, labsF, if_neg h]
  rw [labsF_eq (r.length + 1) ((r.drop c).length + 1) _ (by rw [List.length_drop]; omega) (by omega)]
/-- the bytes of labels -/
def wire : List (List Nat) → List Nat
  | [] => [0]
  | x :: L => x.length :: (x ++ wire L)
def LabOk (L : List (List Nat)) : Prop := ∀ x ∈ L, 1 ≤ x.length ∧ x.length ≤ 63
theorem LabOk.tail {x : List Nat} {L : List (List Nat)} (h : LabOk (x :: L)) : LabOk L := fun y hy => h y (List.mem_cons_of_mem _ hy)
theorem LabOk.head {x : List Nat} {L : List (List Nat)} (h : LabOk (x :: L)) : 1 ≤ x.length ∧ x.length ≤ 63 := h x (List.mem_cons_self ..)
theorem wire_ne (L : List (List Nat)) : wire L ≠ [] := by cases L <;> exact fun h => by cases h
theorem wire_pos (L : List (List Nat)) : 1 ≤ (wire L).length := by cases L <;> simp [wire]
theorem labs_wire : ∀ {L : List (List Nat)}, LabOk L → labs (wire L) = some L
  | [], _ => rfl
  | x :: L, h => by
    have hx := h.head
    rw [wire, labs_cons (by omega), if_pos ⟨hx.2, by rw [List.length_append]; omega⟩, List.drop_left, List.take_left, labs_wire h.tail]
    rfl
theorem wire_labs : ∀ (f : Nat) {l : List Nat} {L : List (List Nat)}, l.length < f → labs l = some L → wire L = l ∧ LabOk L
  | 0, _, _, h, _ => by omega
  | f + 1, [], L, _, h => by cases h
  | f + 1, c :: r, L, hf, h => by
    by_cases h0 : c = 0
    · subst h0
      rw [labs_zero] at h
      split at h
      · rename_i hr
        cases h
        subst hr
        exact ⟨rfl, fun x hx => by cases hx⟩
      · cases h
    · rw [labs_cons h0] at h
      split at h
      · rename_i hc
        cases hm : labs (r.drop c) with
        | none => rw [hm] at h; cases h
        | some M =>
          rw [hm] at h
          cases h
          obtain ⟨h1, h2⟩ := wire_labs f (l := r.drop c) (by rw [List.length_drop]; simp at hf; omega) hm
          have hl : (r.take c).length = c := by rw [List.length_take]; omega
          refine ⟨?_, fun x hx => ?_⟩
          · rw [wire, hl, h1, List.take_append_drop]
          · rcases List.mem_cons.1 hx with rfl | hx
            · omega
            · exact h2 x hx
      · cases h
/-- whether bytes are a name -/
def mayB (l : List Nat) : Bool := decide (l.length ≤ 255) && (labs l).isSome
theorem mayB_iff {l : List Nat} : mayB l = true ↔ ∃ L, l = wire L ∧ LabOk L ∧ l.length ≤ 255 := by
  unfold mayB
  rw [Bool.and_eq_true, decide_eq_true_iff, Option.isSome_iff_exists]
  constructor
  · rintro ⟨h1, L, h2⟩
    obtain ⟨h3, h4⟩ := wire_labs _ (Nat.lt_succ_self _) h2
    exact ⟨L, h3.symm, h4, h1⟩
  · rintro ⟨L, rfl, h2, h3⟩
    exact ⟨h3, L, labs_wire h2⟩
theorem wire_inj {L M : List (List Nat)} (h : LabOk L) (k : LabOk M) (e : wire L = wire M) : L = M := by
  have h1 := labs_wire h
  rw [e, labs_wire k] at h1
  exact (Option.some.inj h1).symm
theorem wire_b8 : ∀ {L : List (List Nat)}, Clu.B8 (wire L) → ∀ x ∈ L, Clu.B8 x
  | [], _, x, hx => by cases hx
  | y :: L, h, x, hx => by
    rcases List.mem_cons.1 hx with rfl | hx
    · exact h.tail.left
    · exact wire_b8 h.tail.right x hx
theorem low_wire : ∀ {L : List (List Nat)}, LabOk L → low (wire L) = wire (L.map low)
  | [], _ => rfl
  | x :: L, h => by
    have hx := h.head
    show lowB x.length :: low (x ++ wire L) = (low x).length :: (low x ++ wire (L.map low))
    rw [low_app, low_wire h.tail, low_length]
    congr 1
    unfold lowB
    rw [if_neg (by omega)]
theorem LabOk.low {L : List (List Nat)} (h : LabOk L) : LabOk (L.map low) := fun x hx => by
  obtain ⟨y, hy, rfl⟩ := List.mem_map.1 hx
  rw [low_length]
  exact h y hy
theorem low_wire_inj {L M : List (List Nat)} (h : LabOk L) (k : LabOk M) : low (wire L) = low (wire M) ↔ L.map low = M.map low := by
  rw [low_wire h, low_wire k]
  exact ⟨fun e => wire_inj h.low k.low e, fun e => by rw [e]⟩
theorem wire_low_length (L : List (List Nat)) : (wire (L.map low)).length = (wire L).length := by
  induction L with
  | nil => rfl
  | cons x L ih => simp [wire, ih, low_length]
theorem wire_app (K L : List (List Nat)) : ∃ p, wire (K ++ L) = p ++ wire L ∧ p.length = (wire K).length - 1 := by
  induction K with
  | nil => exact ⟨[], rfl, rfl⟩
  | cons x K ih =>
    obtain ⟨p, h1, h2⟩ := ih
    refine ⟨x.length :: (x ++ p), ?_, ?_⟩
    · show x.length :: (x ++ wire (K ++ L)) = _
      rw [h1, List.cons_append, List.append_assoc]
    · have := wire_pos K
      simp only [wire, List.length_cons, List.length_append, h2]
      omega
theorem wire_app_length (K L : List (List Nat)) : (wire (K ++ L)).length = (wire K).length - 1 + (wire L).length := by
  obtain ⟨p, h1, h2⟩ := wire_app K L
  rw [h1, List.length_append, h2]
/-! within -/
/-- is the one within the other? -/
def withinL (L Z : List (List Nat)) : Bool := decide (Z.map low <:+ L.map low)
/-- the first labels dropped, as long as there are more bytes than so many -/
def cutTo : List (List Nat) → Nat → List (List Nat)
  | [], _ => []
  | x :: L, k => if k < (wire (x :: L)).length then cutTo L k else x :: L
theorem cutTo_suffix : ∀ (L : List (List Nat)) (k : Nat), cutTo L k <:+ L
  | [], _ => List.suffix_refl _
  | x :: L, k => by
    unfold cutTo
    split
    · exact (cutTo_suffix L k).trans (List.suffix_cons x L)
    · exact List.suffix_refl _
theorem suffix_wire {K L : List (List Nat)} (h : K <:+ L) : (wire K).length ≤ (wire L).length ∧ ((wire K).length = (wire L).length → K = L) := by
  obtain ⟨p, rfl⟩ := h
  rw [wire_app_length]
  refine ⟨by omega, fun e => ?_⟩
  cases p with
  | nil => rfl
  | cons x p =>
    have := wire_pos p
    have h1 : (wire (x :: p)).length = x.length + 1 + (wire p).length := by simp [wire]; omega
    omega
theorem within_cut : ∀ {L Z : List (List Nat)}, (cutTo L (wire Z).length).map low = Z.map low ↔ Z.map low <:+ L.map low
  | [], Z => by
    show ([] : List (List Nat)) = Z.map low ↔ Z.map low <:+ []
    rw [List.suffix_nil]
    exact eq_comm
  | x :: L, Z => by
    unfold cutTo
    split
    · rename_i h
      rw [within_cut (L := L)]
      constructor
      · exact fun k => k.trans (List.suffix_cons (low x) (L.map low))
      · intro k
        rw [List.map_cons] at k
        rcases List.suffix_cons_iff.1 k with e | e
        · have := congrArg (fun l => (wire l).length) e
          simp only [← List.map_cons] at this
          rw [wire_low_length, wire_low_length] at this
          omega
        · exact e
    · rename_i h
      constructor
      · intro e; rw [← e]; exact List.suffix_refl _
      · intro k
        have := suffix_wire k
        rw [wire_low_length, wire_low_length] at this
        exact (this.2 (by omega)).symm
/-! order -/
def cmpN (a b : Nat) : Int := if a < b then -1 else if b < a then 1 else 0
def lexC {α : Type} (c : α → α → Int) : List α → List α → Int
  | [], [] => 0
  | [], _ :: _ => -1
  | _ :: _, [] => 1
  | a :: l, b :: m => if c a b = 0 then lexC c l m else c a b
structure Ord3 {α : Type} (c : α → α → Int) : Prop where
  anti : ∀ a b, c b a = - c a b
  zero : ∀ a b, c a b = 0 ↔ a = b
  trans : ∀ a b d, c a b ≤ 0 → c b d ≤ 0 → c a d ≤ 0
  low : ∀ a b, -1 ≤ c a b
  high : ∀ a b, c a b ≤ 1
theorem cmpN_ord : Ord3 cmpN := by
  refine ⟨fun a b => ?_, fun a b => ?_, fun a b d => ?_, fun a b => ?_, fun a b => ?_⟩ <;> unfold cmpN <;> (repeat' split) <;> omega
theorem Ord3.strict {α : Type} {c : α → α → Int} (o : Ord3 c) {a b d : α} (h : c a b < 0) (k : c b d ≤ 0) : c a d < 0 := by
  have h1 := o.trans a b d (by omega) k
  by_cases h2 : c a d = 0
  · have := (o.zero a d).1 h2
    subst this
    have := o.anti a b
    omega
  · omega
theorem Ord3.strict' {α : Type} {c : α → α → Int} (o : Ord3 c) {a b d : α} (h : c a b ≤ 0) (k : c b d < 0) : c a d < 0 := by
  have h1 := o.trans a b d h (by omega)
  by_cases h2 : c a d = 0
  · have := (o.zero a d).1 h2
    subst this
    have := o.anti a b
    omega
  · omega
section
variable {α : Type} {c : α → α → Int}
theorem lexC_anti (o : Ord3 c) : ∀ l m : List α, lexC c m l = - lexC c l m
  | [], [] => rfl
  | [], _ :: _ => rfl
  | _ :: _, [] => rfl
  | a :: l, b :: m => by
    have h := o.anti a b
    unfold lexC
    by_cases h0 : c a b = 0
    · rw [if_pos h0, if_pos (by omega), lexC_anti o l m]
    · rw [if_neg h0, if_neg (by omega), h]
theorem lexC_zero (o : Ord3 c) : ∀ l m : List α, lexC c l m = 0 ↔ l = m
  | [], [] => by simp [lexC]
  | [], _ :: _ => by simp [lexC]
  | _ :: _, [] => by simp [lexC]
  | a :: l, b :: m => by
    unfold lexC
    by_cases h0 : c a b = 0
    · rw [if_pos h0, lexC_zero o l m, (o.zero a b).1 h0]
      simp
    · rw [if_neg h0]
      have : a ≠ b := fun e => h0 ((o.zero a b).2 e)
      simp [h0, this]
theorem lexC_trans (o : Ord3 c) : ∀ l m n : List α, lexC c l m ≤ 0 → lexC c m n ≤ 0 → lexC c l n ≤ 0
  | [], _, [], _, _ => by simp [lexC]
  | [], _, _ :: _, _, _ => by simp [lexC]
  | _ :: _, [], _, h, _ => by simp [lexC] at h
  | _ :: _, _ :: _, [], _, h => by simp [lexC] at h
  | a :: l, b :: m, d :: n, h, k => by
    unfold lexC at h k ⊢
    by_cases h0 : c a b = 0
    · rw [if_pos h0] at h
      obtain rfl := (o.zero a b).1 h0
      by_cases h1 : c a d = 0
      · rw [if_pos h1] at k ⊢
        exact lexC_trans o l m n h k
      · rw [if_neg h1] at k ⊢
        exact k
    · rw [if_neg h0] at h
      by_cases h1 : c b d = 0
      · obtain rfl := (o.zero b d).1 h1
        rw [if_neg h0]
        exact h
      · rw [if_neg h1] at k
        have := o.strict (a := a) (b := b) (d := d) (by omega) k
        rw [if_neg (by omega)]
        omega
theorem lexC_low (o : Ord3 c) : ∀ l m : List α, -1 ≤ lexC c l m
  | [], [] => by simp [lexC]
  | [], _ :: _ => by simp [lexC]
  | _ :: _, [] => by simp [lexC]
  | a :: l, b :: m => by
    unfold lexC
    split
    · exact lexC_low o l m
    · exact o.low a b
theorem lexC_ord (o : Ord3 c) : Ord3 (lexC c) := ⟨lexC_anti o, lexC_zero o, lexC_trans o, lexC_low o, fun l m => by have := lexC_anti o m l; have := lexC_low o m l; omega⟩
theorem lexC_prefix (o : Ord3 c) : ∀ {p x : List α}, p <+: x → lexC c p x ≤ 0
  | [], [], _ => by simp [lexC]
  | [], _ :: _, _ => by simp [lexC]
  | a :: p, [], h => by simp at h
  | a :: p, b :: x, h => by
    obtain ⟨h1, h2⟩ := List.cons_prefix_cons.1 h
    subst h1
    unfold lexC
    rw [if_pos ((o.zero a a).2 rfl)]
    exact lexC_prefix o h2
theorem lexC_between (o : Ord3 c) : ∀ {p x y z : List α}, p <+: x → p <+: z → lexC c x y ≤ 0 → lexC c y z ≤ 0 → p <+: y
  | [], _, _, _, _, _, _, _ => List.nil_prefix
  | a :: p, [], _, _, h, _, _, _ => by simp at h
  | a :: p, _ :: _, _, [], _, h, _, _ => by simp at h
  | a :: p, b :: x, [], d :: z, h, k, q, _ => by simp [lexC] at q
  | a :: p, b :: x, y0 :: y, d :: z, h, k, q, r => by
    obtain ⟨h1, h2⟩ := List.cons_prefix_cons.1 h
    obtain ⟨k1, k2⟩ := List.cons_prefix_cons.1 k
    subst h1
    subst k1
    unfold lexC at q r
    by_cases h0 : c a y0 = 0
    · obtain rfl := (o.zero a y0).1 h0
      rw [if_pos h0] at q r
      exact List.cons_prefix_cons.2 ⟨rfl, lexC_between o h2 k2 q r⟩
    · have h1 := o.anti a y0
      rw [if_neg h0] at q
      rw [if_neg (by omega)] at r
      omega
end
def cmpS : List Nat → List Nat → Int := lexC cmpN
def cmpW : List (List Nat) → List (List Nat) → Int := lexC cmpS
theorem cmpS_ord : Ord3 cmpS := lexC_ord cmpN_ord
theorem cmpW_ord : Ord3 cmpW := lexC_ord cmpS_ord
/-- the order of names -/
def cmpL (L M : List (List Nat)) : Int := cmpW (L.map low).reverse (M.map low).reverse
end Go.Proofs.Ytmokdhmicdmgfaa

namespace Go.Proofs.Ytmokdhmicdmgfaa
open Go.RowKit
set_option linter.unusedVariables false
set_option linter.unusedSimpArgs false
set_option maxRecDepth 100000
set_option maxRecDepth 10000000 in
theorem lowA_raw (n N i : Nat) (os : Nat → Option Clu.AV) : Clu.evL (Clu.noL) Try.prog (Clu.noX) 50 35 1000 (Clu.loopNo Try.f35 0) (Clu.tellF [3000018, 3000032, 3000038, 3000042, 3000062] (Clu.mkFr 35 (Clu.std [0, 3, 7, 8] [.s n N, .sn, .i .i64 (.ofNat n), .i .i64 (.ofNat i)] [9, 15, 16, 18, 19, 21, 31] os))) (Clu.mkH (Clu.mkH .e (Clu.layB [])) []) 1000 (Clu.finM 35 1000 [9, 15, 16, 18, 19, 21, 31] 0 [(0, [0, 3, 7, 8], [(1000, 0, 1, none)], some 1001), (0, [0, 3, 7, 8], [], none), (2, [0, 3], [], none)]) = Clu.forkB ((Clu.iLt (Int.ofNat i) (Int.ofNat n))) (Clu.needT ((Clu.flatB (os 15))) (.err 90 1) (Clu.needT ((Clu.flatB (os 16))) (.err 90 1) (Clu.needT ((Clu.flatB (os 18))) (.err 90 1) (Clu.needT ((Clu.flatB (os 19))) (.err 90 1) (Clu.needT ((Clu.flatB (os 21))) (.err 90 1) (Clu.needT ((Clu.flatB (os 31))) (.err 90 1) ((Clu.Out.ok (Clu.AV.tu [(Clu.AV.i IntKind.i64 (Int.ofNat 2)), (Clu.AV.s n N), Clu.AV.sn]))))))))) (Clu.needT ((Nat.blt i n)) (.err 22 6) (Clu.forkB ((Bool.not (Clu.iLt (Int.ofNat (Clu.byteN N i)) (Int.ofNat 65)))) (Clu.needT ((Clu.inR IntKind.i64 (Int.ofNat (i + 1)))) (.err 10 20) (Clu.needT ((Clu.flatB (os 21))) (.err 90 1) (Clu.needT ((Clu.flatB (os 31))) (.err 90 1) ((Clu.Out.ok (Clu.AV.tu [(Clu.AV.i IntKind.i64 (Int.ofNat 1)), (Clu.AV.s n N), Clu.AV.sn, (Clu.AV.i IntKind.i64 (Int.ofNat n)), (Clu.AV.i IntKind.i64 (Int.ofNat (i + 1)))])))))) (Clu.forkB ((Bool.not (Clu.iLt (Int.ofNat 90) (Int.ofNat (Clu.byteN N i))))) (Clu.needT ((Clu.inR IntKind.i64 (Int.ofNat (i + 1)))) (.err 10 20) (Clu.needT ((Clu.flatB (os 21))) (.err 90 1) (Clu.needT ((Clu.flatB (os 31))) (.err 90 1) ((Clu.Out.ok (Clu.AV.tu [(Clu.AV.i IntKind.i64 (Int.ofNat 1)), (Clu.AV.s n N), Clu.AV.sn, (Clu.AV.i IntKind.i64 (Int.ofNat n)), (Clu.AV.i IntKind.i64 (Int.ofNat (i + 1)))])))))) (Clu.needT ((Nat.blt i n)) (.err 22 0) (Clu.needT ((Nat.ble ((0 + (i * 1)) + 1) (List.length (HAppend.hAppend (List.map (fun (i_x : Nat) => (Clu.AV.i IntKind.u8 (Int.ofNat (Clu.byteN N i_x)))) (List.range n)) [])))) (.err 7 0) (Clu.needT ((Clu.inR IntKind.i64 (Int.ofNat (i + 1)))) (.err 10 20) (Clu.needT ((Clu.flatB (os 31))) (.err 90 1) ((Clu.Out.ok (Clu.AV.tu [(Clu.AV.i IntKind.i64 (Int.ofNat 0)), (Clu.AV.s n N), (Clu.AV.so 1000 0 1 n), (Clu.AV.i IntKind.i64 (Int.ofNat n)), (Clu.AV.i IntKind.i64 (Int.ofNat (i + 1))), (Clu.AV.ag (Clu.splice (HAppend.hAppend (List.map (fun (i_x : Nat) => (Clu.AV.i IntKind.u8 (Int.ofNat (Clu.byteN N i_x)))) (List.range n)) []) (0 + (i * 1)) [(Clu.AV.i IntKind.u8 (Int.ofNat (Clu.modN (Int.ofNat ((Clu.byteN N i) + 32)) 256)))]))])))))))))) := by kernel_rfl
set_option linter.unusedVariables false in
theorem lowA_0 (n N i : Nat) (os : Nat → Option Clu.AV) (hos : ∀ t, Clu.flatB (os t) = true)  (c1 : n ≤ i) : ∃ os' : Nat → Option Clu.AV, (∀ t, Clu.flatB (os' t) = true) ∧ Clu.RunE Try.prog 50 (Clu.loopNo Try.f35 0) 35 1000 (Clu.mkFr 35 (Clu.std [0, 3, 7, 8] [.s n N, .sn, .i .i64 (.ofNat n), .i .i64 (.ofNat i)] [9, 15, 16, 18, 19, 21, 31] os)) (Clu.mkH .e ([] ++ (Clu.layB []))) 1000 (Clu.exOf 2) (Clu.mkFr 35 (Clu.std [0, 3] [(Clu.AV.s n N), Clu.AV.sn] [9, 15, 16, 18, 19, 21, 31] os')) (Clu.mkH .e ([] ++ (Clu.layB []))) 1000 :=
  Clu.segM (vs := [(Clu.AV.s n N), Clu.AV.sn]) (cs := []) 2 2 [0, 3] [] (Clu.evL_ok Clu.plain (Clu.noX_ok) (Clu.drK_ok Clu.mixed) (Clu.noL_ok) 50) (Clu.layB_bs rfl (by decide) (by decide)) hos (((((((((lowA_raw n N i os)).trans (Clu.forkB_f (Clu.iLt_f (Int.ofNat_le.2 c1)) _ _)).trans (Clu.needT_eq (hos _) _ _)).trans (Clu.needT_eq (hos _) _ _)).trans (Clu.needT_eq (hos _) _ _)).trans (Clu.needT_eq (hos _) _ _)).trans (Clu.needT_eq (hos _) _ _)).trans (Clu.needT_eq (hos _) _ _)) rfl rfl rfl (by decide) rfl (by simp [Clu.Blk.und, Clu.AV.und, Clu.AV.unds]) rfl (Clu.newH_ro rfl) (by simp [Clu.AV.und, Clu.AV.unds, Clu.AV.cells, Clu.unds_splice])
set_option linter.unusedVariables false in
theorem lowA_1 (n N i : Nat) (os : Nat → Option Clu.AV) (hos : ∀ t, Clu.flatB (os t) = true)  (c1 : i < n) (n1 : i < n := by omega) (c2 : (Clu.byteN N i) < 65) (n2 : (i + 1) < 9223372036854775808 := by omega) : ∃ os' : Nat → Option Clu.AV, (∀ t, Clu.flatB (os' t) = true) ∧ Clu.RunE Try.prog 50 (Clu.loopNo Try.f35 0) 35 1000 (Clu.mkFr 35 (Clu.std [0, 3, 7, 8] [.s n N, .sn, .i .i64 (.ofNat n), .i .i64 (.ofNat i)] [9, 15, 16, 18, 19, 21, 31] os)) (Clu.mkH .e ([] ++ (Clu.layB []))) 1000 (Clu.exOf 0) (Clu.mkFr 35 (Clu.std [0, 3, 7, 8] [(Clu.AV.s n N), Clu.AV.sn, (Clu.AV.i IntKind.i64 (Int.ofNat n)), (Clu.AV.i IntKind.i64 (Int.ofNat (i + 1)))] [9, 15, 16, 18, 19, 21, 31] os')) (Clu.mkH .e ([] ++ (Clu.layB []))) 1000 :=
  Clu.segM (vs := [(Clu.AV.s n N), Clu.AV.sn, (Clu.AV.i IntKind.i64 (Int.ofNat n)), (Clu.AV.i IntKind.i64 (Int.ofNat (i + 1)))]) (cs := []) 1 0 [0, 3, 7, 8] [] (Clu.evL_ok Clu.plain (Clu.noX_ok) (Clu.drK_ok Clu.mixed) (Clu.noL_ok) 50) (Clu.layB_bs rfl (by decide) (by decide)) hos ((((((((lowA_raw n N i os)).trans (Clu.forkB_t (Clu.iLt_t (Int.ofNat_lt.2 c1)) _ _)).trans (Clu.needT_eq (Clu.blt_iff.2 n1) _ _)).trans (Clu.forkB_f (congrArg not (Clu.iLt_t (Int.ofNat_lt.2 c2))) _ _)).trans (Clu.needT_eq (Clu.inR_nat (k := .i64) n2) _ _)).trans (Clu.needT_eq (hos _) _ _)).trans (Clu.needT_eq (hos _) _ _)) rfl rfl rfl (by decide) rfl (by simp [Clu.Blk.und, Clu.AV.und, Clu.AV.unds]) rfl (Clu.newH_ro rfl) (by simp [Clu.AV.und, Clu.AV.unds, Clu.AV.cells, Clu.unds_splice])
set_option linter.unusedVariables false in
theorem lowA_2 (n N i : Nat) (os : Nat → Option Clu.AV) (hos : ∀ t, Clu.flatB (os t) = true)  (c1 : i < n) (n1 : i < n := by omega) (c2 : 65 ≤ (Clu.byteN N i)) (c3 : 90 < (Clu.byteN N i)) (n2 : (i + 1) < 9223372036854775808 := by omega) : ∃ os' : Nat → Option Clu.AV, (∀ t, Clu.flatB (os' t) = true) ∧ Clu.RunE Try.prog 50 (Clu.loopNo Try.f35 0) 35 1000 (Clu.mkFr 35 (Clu.std [0, 3, 7, 8] [.s n N, .sn, .i .i64 (.ofNat n), .i .i64 (.ofNat i)] [9, 15, 16, 18, 19, 21, 31] os)) (Clu.mkH .e ([] ++ (Clu.layB []))) 1000 (Clu.exOf 0) (Clu.mkFr 35 (Clu.std [0, 3, 7, 8] [(Clu.AV.s n N), Clu.AV.sn, (Clu.AV.i IntKind.i64 (Int.ofNat n)), (Clu.AV.i IntKind.i64 (Int.ofNat (i + 1)))] [9, 15, 16, 18, 19, 21, 31] os')) (Clu.mkH .e ([] ++ (Clu.layB []))) 1000 :=
  Clu.segM (vs := [(Clu.AV.s n N), Clu.AV.sn, (Clu.AV.i IntKind.i64 (Int.ofNat n)), (Clu.AV.i IntKind.i64 (Int.ofNat (i + 1)))]) (cs := []) 1 0 [0, 3, 7, 8] [] (Clu.evL_ok Clu.plain (Clu.noX_ok) (Clu.drK_ok Clu.mixed) (Clu.noL_ok) 50) (Clu.layB_bs rfl (by decide) (by decide)) hos (((((((((lowA_raw n N i os)).trans (Clu.forkB_t (Clu.iLt_t (Int.ofNat_lt.2 c1)) _ _)).trans (Clu.needT_eq (Clu.blt_iff.2 n1) _ _)).trans (Clu.forkB_t (congrArg not (Clu.iLt_f (Int.ofNat_le.2 c2))) _ _)).trans (Clu.forkB_f (congrArg not (Clu.iLt_t (Int.ofNat_lt.2 c3))) _ _)).trans (Clu.needT_eq (Clu.inR_nat (k := .i64) n2) _ _)).trans (Clu.needT_eq (hos _) _ _)).trans (Clu.needT_eq (hos _) _ _)) rfl rfl rfl (by decide) rfl (by simp [Clu.Blk.und, Clu.AV.und, Clu.AV.unds]) rfl (Clu.newH_ro rfl) (by simp [Clu.AV.und, Clu.AV.unds, Clu.AV.cells, Clu.unds_splice])
set_option linter.unusedVariables false in
theorem lowA_3 (n N i : Nat) (os : Nat → Option Clu.AV) (hos : ∀ t, Clu.flatB (os t) = true)  (c1 : i < n) (n1 : i < n := by omega) (c2 : 65 ≤ (Clu.byteN N i)) (c3 : (Clu.byteN N i) ≤ 90) (n2 : i < n := by omega) (n3 : ((0 + (i * 1)) + 1) ≤ (List.length (HAppend.hAppend (List.map (fun (i_x : Nat) => (Clu.AV.i IntKind.u8 (Int.ofNat (Clu.byteN N i_x)))) (List.range n)) [])) := by first | omega | (simp; omega)) (n4 : (i + 1) < 9223372036854775808 := by omega) : ∃ os' : Nat → Option Clu.AV, (∀ t, Clu.flatB (os' t) = true) ∧ Clu.RunE Try.prog 50 (Clu.loopNo Try.f35 0) 35 1000 (Clu.mkFr 35 (Clu.std [0, 3, 7, 8] [.s n N, .sn, .i .i64 (.ofNat n), .i .i64 (.ofNat i)] [9, 15, 16, 18, 19, 21, 31] os)) (Clu.mkH .e ([] ++ (Clu.layB []))) 1000 (Clu.exOf 0) (Clu.mkFr 35 (Clu.std [0, 3, 7, 8] [(Clu.AV.s n N), (Clu.AV.so 1000 0 1 n), (Clu.AV.i IntKind.i64 (Int.ofNat n)), (Clu.AV.i IntKind.i64 (Int.ofNat (i + 1)))] [9, 15, 16, 18, 19, 21, 31] os')) (Clu.mkH .e ([(1000, .c (Clu.splice (HAppend.hAppend (List.map (fun (i_x : Nat) => (Clu.AV.i IntKind.u8 (Int.ofNat (Clu.byteN N i_x)))) (List.range n)) []) (0 + (i * 1)) [(Clu.AV.i IntKind.u8 (Int.ofNat (Clu.modN (Int.ofNat ((Clu.byteN N i) + 32)) 256)))]) 0 1 none)] ++ (Clu.layB []))) 1001 :=
  Clu.segMN (vs := [(Clu.AV.s n N), (Clu.AV.so 1000 0 1 n), (Clu.AV.i IntKind.i64 (Int.ofNat n)), (Clu.AV.i IntKind.i64 (Int.ofNat (i + 1)))]) (cs := [(Clu.splice (HAppend.hAppend (List.map (fun (i_x : Nat) => (Clu.AV.i IntKind.u8 (Int.ofNat (Clu.byteN N i_x)))) (List.range n)) []) (0 + (i * 1)) [(Clu.AV.i IntKind.u8 (Int.ofNat (Clu.modN (Int.ofNat ((Clu.byteN N i) + 32)) 256)))])]) 0 0 [0, 3, 7, 8] [(1000, 0, 1, none)] (Clu.evL_ok Clu.plain (Clu.noX_ok) (Clu.drK_ok Clu.mixed) (Clu.noL_ok) 50) (Clu.layB_bs rfl (by decide) (by decide)) hos ((((((((((lowA_raw n N i os)).trans (Clu.forkB_t (Clu.iLt_t (Int.ofNat_lt.2 c1)) _ _)).trans (Clu.needT_eq (Clu.blt_iff.2 n1) _ _)).trans (Clu.forkB_t (congrArg not (Clu.iLt_f (Int.ofNat_le.2 c2))) _ _)).trans (Clu.forkB_t (congrArg not (Clu.iLt_f (Int.ofNat_le.2 c3))) _ _)).trans (Clu.needT_eq (Clu.blt_iff.2 n2) _ _)).trans (Clu.needT_eq (Clu.ble_iff.2 n3) _ _)).trans (Clu.needT_eq (Clu.inR_nat (k := .i64) n4) _ _)).trans (Clu.needT_eq (hos _) _ _)) rfl rfl rfl (by simp) (by simp)
set_option maxRecDepth 10000000 in
theorem lowB_raw (n N i : Nat) (cs : List Clu.AV) (os : Nat → Option Clu.AV) : Clu.evL (Clu.noL) Try.prog (Clu.noX) 50 35 1000 (Clu.loopNo Try.f35 0) (Clu.tellF [3000018, 3000032, 3000038, 3000042, 3000062] (Clu.mkFr 35 (Clu.std [0, 3, 7, 8] [.s n N, .so 1000 0 1 n, .i .i64 (.ofNat n), .i .i64 (.ofNat i)] [9, 15, 16, 18, 19, 21, 31] os))) (Clu.mkH (Clu.mkH .e (Clu.layB [])) [(1000, .c cs 0 1 none)]) 1001 (Clu.finM 35 1001 [9, 15, 16, 18, 19, 21, 31] 0 [(0, [0, 3, 7, 8], [(1000, 0, 1, none)], none), (2, [0, 3], [(1000, 0, 1, none)], none)]) = Clu.forkB ((Clu.iLt (Int.ofNat i) (Int.ofNat n))) (Clu.needT ((Clu.flatB (os 15))) (.err 90 1) (Clu.needT ((Clu.flatB (os 16))) (.err 90 1) (Clu.needT ((Clu.flatB (os 18))) (.err 90 1) (Clu.needT ((Clu.flatB (os 19))) (.err 90 1) (Clu.needT ((Clu.flatB (os 21))) (.err 90 1) (Clu.needT ((Clu.flatB (os 31))) (.err 90 1) ((Clu.Out.ok (Clu.AV.tu [(Clu.AV.i IntKind.i64 (Int.ofNat 1)), (Clu.AV.s n N), (Clu.AV.so 1000 0 1 n), (Clu.AV.ag cs)]))))))))) (Clu.needT ((Nat.blt i n)) (.err 22 6) (Clu.forkB ((Bool.not (Clu.iLt (Int.ofNat (Clu.byteN N i)) (Int.ofNat 65)))) (Clu.needT ((Clu.inR IntKind.i64 (Int.ofNat (i + 1)))) (.err 10 20) (Clu.needT ((Clu.flatB (os 21))) (.err 90 1) (Clu.needT ((Clu.flatB (os 31))) (.err 90 1) ((Clu.Out.ok (Clu.AV.tu [(Clu.AV.i IntKind.i64 (Int.ofNat 0)), (Clu.AV.s n N), (Clu.AV.so 1000 0 1 n), (Clu.AV.i IntKind.i64 (Int.ofNat n)), (Clu.AV.i IntKind.i64 (Int.ofNat (i + 1))), (Clu.AV.ag cs)])))))) (Clu.forkB ((Bool.not (Clu.iLt (Int.ofNat 90) (Int.ofNat (Clu.byteN N i))))) (Clu.needT ((Clu.inR IntKind.i64 (Int.ofNat (i + 1)))) (.err 10 20) (Clu.needT ((Clu.flatB (os 21))) (.err 90 1) (Clu.needT ((Clu.flatB (os 31))) (.err 90 1) ((Clu.Out.ok (Clu.AV.tu [(Clu.AV.i IntKind.i64 (Int.ofNat 0)), (Clu.AV.s n N), (Clu.AV.so 1000 0 1 n), (Clu.AV.i IntKind.i64 (Int.ofNat n)), (Clu.AV.i IntKind.i64 (Int.ofNat (i + 1))), (Clu.AV.ag cs)])))))) (Clu.needT ((Nat.blt i n)) (.err 22 0) (Clu.needT ((Nat.ble ((0 + (i * 1)) + 1) (List.length cs))) (.err 7 0) (Clu.needT ((Clu.inR IntKind.i64 (Int.ofNat (i + 1)))) (.err 10 20) (Clu.needT ((Clu.flatB (os 31))) (.err 90 1) ((Clu.Out.ok (Clu.AV.tu [(Clu.AV.i IntKind.i64 (Int.ofNat 0)), (Clu.AV.s n N), (Clu.AV.so 1000 0 1 n), (Clu.AV.i IntKind.i64 (Int.ofNat n)), (Clu.AV.i IntKind.i64 (Int.ofNat (i + 1))), (Clu.AV.ag (Clu.splice cs (0 + (i * 1)) [(Clu.AV.i IntKind.u8 (Int.ofNat (Clu.modN (Int.ofNat ((Clu.byteN N i) + 32)) 256)))]))])))))))))) := by kernel_rfl
set_option linter.unusedVariables false in
theorem lowB_0 (n N i : Nat) (cs : List Clu.AV) (os : Nat → Option Clu.AV) (hos : ∀ t, Clu.flatB (os t) = true) (hu : Clu.AV.unds 1001 cs = true) (c1 : n ≤ i) : ∃ os' : Nat → Option Clu.AV, (∀ t, Clu.flatB (os' t) = true) ∧ Clu.RunE Try.prog 50 (Clu.loopNo Try.f35 0) 35 1000 (Clu.mkFr 35 (Clu.std [0, 3, 7, 8] [.s n N, .so 1000 0 1 n, .i .i64 (.ofNat n), .i .i64 (.ofNat i)] [9, 15, 16, 18, 19, 21, 31] os)) (Clu.mkH .e ([(1000, .c cs 0 1 none)] ++ (Clu.layB []))) 1001 (Clu.exOf 2) (Clu.mkFr 35 (Clu.std [0, 3] [(Clu.AV.s n N), (Clu.AV.so 1000 0 1 n)] [9, 15, 16, 18, 19, 21, 31] os')) (Clu.mkH .e ([(1000, .c cs 0 1 none)] ++ (Clu.layB []))) 1001 :=
  Clu.segM (vs := [(Clu.AV.s n N), (Clu.AV.so 1000 0 1 n)]) (cs := [cs]) 1 2 [0, 3] [(1000, 0, 1, none)] (Clu.evL_ok Clu.plain (Clu.noX_ok) (Clu.drK_ok Clu.mixed) (Clu.noL_ok) 50) (Clu.layB_bs rfl (by decide) (by decide)) hos (((((((((lowB_raw n N i cs os)).trans (Clu.forkB_f (Clu.iLt_f (Int.ofNat_le.2 c1)) _ _)).trans (Clu.needT_eq (hos _) _ _)).trans (Clu.needT_eq (hos _) _ _)).trans (Clu.needT_eq (hos _) _ _)).trans (Clu.needT_eq (hos _) _ _)).trans (Clu.needT_eq (hos _) _ _)).trans (Clu.needT_eq (hos _) _ _)) rfl rfl rfl (by decide) rfl (by simp [Clu.Blk.und, Clu.AV.und, Clu.AV.unds, hu]) rfl (Clu.newH_ro rfl) (by simp [Clu.AV.und, Clu.AV.unds, Clu.AV.cells, Clu.unds_splice, hu])
set_option linter.unusedVariables false in
theorem lowB_1 (n N i : Nat) (cs : List Clu.AV) (os : Nat → Option Clu.AV) (hos : ∀ t, Clu.flatB (os t) = true) (hu : Clu.AV.unds 1001 cs = true) (c1 : i < n) (n1 : i < n := by omega) (c2 : (Clu.byteN N i) < 65) (n2 : (i + 1) < 9223372036854775808 := by omega) : ∃ os' : Nat → Option Clu.AV, (∀ t, Clu.flatB (os' t) = true) ∧ Clu.RunE Try.prog 50 (Clu.loopNo Try.f35 0) 35 1000 (Clu.mkFr 35 (Clu.std [0, 3, 7, 8] [.s n N, .so 1000 0 1 n, .i .i64 (.ofNat n), .i .i64 (.ofNat i)] [9, 15, 16, 18, 19, 21, 31] os)) (Clu.mkH .e ([(1000, .c cs 0 1 none)] ++ (Clu.layB []))) 1001 (Clu.exOf 0) (Clu.mkFr 35 (Clu.std [0, 3, 7, 8] [(Clu.AV.s n N), (Clu.AV.so 1000 0 1 n), (Clu.AV.i IntKind.i64 (Int.ofNat n)), (Clu.AV.i IntKind.i64 (Int.ofNat (i + 1)))] [9, 15, 16, 18, 19, 21, 31] os')) (Clu.mkH .e ([(1000, .c cs 0 1 none)] ++ (Clu.layB []))) 1001 :=
  Clu.segM (vs := [(Clu.AV.s n N), (Clu.AV.so 1000 0 1 n), (Clu.AV.i IntKind.i64 (Int.ofNat n)), (Clu.AV.i IntKind.i64 (Int.ofNat (i + 1)))]) (cs := [cs]) 0 0 [0, 3, 7, 8] [(1000, 0, 1, none)] (Clu.evL_ok Clu.plain (Clu.noX_ok) (Clu.drK_ok Clu.mixed) (Clu.noL_ok) 50) (Clu.layB_bs rfl (by decide) (by decide)) hos ((((((((lowB_raw n N i cs os)).trans (Clu.forkB_t (Clu.iLt_t (Int.ofNat_lt.2 c1)) _ _)).trans (Clu.needT_eq (Clu.blt_iff.2 n1) _ _)).trans (Clu.forkB_f (congrArg not (Clu.iLt_t (Int.ofNat_lt.2 c2))) _ _)).trans (Clu.needT_eq (Clu.inR_nat (k := .i64) n2) _ _)).trans (Clu.needT_eq (hos _) _ _)).trans (Clu.needT_eq (hos _) _ _)) rfl rfl rfl (by decide) rfl (by simp [Clu.Blk.und, Clu.AV.und, Clu.AV.unds, hu]) rfl (Clu.newH_ro rfl) (by simp [Clu.AV.und, Clu.AV.unds, Clu.AV.cells, Clu.unds_splice, hu])
set_option linter.unusedVariables false in
theorem lowB_2 (n N i : Nat) (cs : List Clu.AV) (os : Nat → Option Clu.AV) (hos : ∀ t, Clu.flatB (os t) = true) (hu : Clu.AV.unds 1001 cs = true) (c1 : i < n) (n1 : i < n := by omega) (c2 : 65 ≤ (Clu.byteN N i)) (c3 : 90 < (Clu.byteN N i)) (n2 : (i + 1) < 9223372036854775808 := by omega) : ∃ os' : Nat → Option Clu.AV, (∀ t, Clu.flatB (os' t) = true) ∧ Clu.RunE Try.prog 50 (Clu.loopNo Try.f35 0) 35 1000 (Clu.mkFr 35 (Clu.std [0, 3, 7, 8] [.s n N, .so 1000 0 1 n, .i .i64 (.ofNat n), .i .i64 (.ofNat i)] [9, 15, 16, 18, 19, 21, 31] os)) (Clu.mkH .e ([(1000, .c cs 0 1 none)] ++ (Clu.layB []))) 1001 (Clu.exOf 0) (Clu.mkFr 35 (Clu.std [0, 3, 7, 8] [(Clu.AV.s n N), (Clu.AV.so 1000 0 1 n), (Clu.AV.i IntKind.i64 (Int.ofNat n)), (Clu.AV.i IntKind.i64 (Int.ofNat (i + 1)))] [9, 15, 16, 18, 19, 21, 31] os')) (Clu.mkH .e ([(1000, .c cs 0 1 none)] ++ (Clu.layB []))) 1001 :=
  Clu.segM (vs := [(Clu.AV.s n N), (Clu.AV.so 1000 0 1 n), (Clu.AV.i IntKind.i64 (Int.ofNat n)), (Clu.AV.i IntKind.i64 (Int.ofNat (i + 1)))]) (cs := [cs]) 0 0 [0, 3, 7, 8] [(1000, 0, 1, none)] (Clu.evL_ok Clu.plain (Clu.noX_ok) (Clu.drK_ok Clu.mixed) (Clu.noL_ok) 50) (Clu.layB_bs rfl (by decide) (by decide)) hos (((((((((lowB_raw n N i cs os)).trans (Clu.forkB_t (Clu.iLt_t (Int.ofNat_lt.2 c1)) _ _)).trans (Clu.needT_eq (Clu.blt_iff.2 n1) _ _)).trans (Clu.forkB_t (congrArg not (Clu.iLt_f (Int.ofNat_le.2 c2))) _ _)).trans (Clu.forkB_f (congrArg not (Clu.iLt_t (Int.ofNat_lt.2 c3))) _ _)).trans (Clu.needT_eq (Clu.inR_nat (k := .i64) n2) _ _)).trans (Clu.needT_eq (hos _) _ _)).trans (Clu.needT_eq (hos _) _ _)) rfl rfl rfl (by decide) rfl (by simp [Clu.Blk.und, Clu.AV.und, Clu.AV.unds, hu]) rfl (Clu.newH_ro rfl) (by simp [Clu.AV.und, Clu.AV.unds, Clu.AV.cells, Clu.unds_splice, hu])
set_option linter.unusedVariables false in
theorem lowB_3 (n N i : Nat) (cs : List Clu.AV) (os : Nat → Option Clu.AV) (hos : ∀ t, Clu.flatB (os t) = true) (hu : Clu.AV.unds 1001 cs = true) (c1 : i < n) (n1 : i < n := by omega) (c2 : 65 ≤ (Clu.byteN N i)) (c3 : (Clu.byteN N i) ≤ 90) (n2 : i < n := by omega) (n3 : ((0 + (i * 1)) + 1) ≤ (List.length cs) := by first | omega | (simp; omega)) (n4 : (i + 1) < 9223372036854775808 := by omega) : ∃ os' : Nat → Option Clu.AV, (∀ t, Clu.flatB (os' t) = true) ∧ Clu.RunE Try.prog 50 (Clu.loopNo Try.f35 0) 35 1000 (Clu.mkFr 35 (Clu.std [0, 3, 7, 8] [.s n N, .so 1000 0 1 n, .i .i64 (.ofNat n), .i .i64 (.ofNat i)] [9, 15, 16, 18, 19, 21, 31] os)) (Clu.mkH .e ([(1000, .c cs 0 1 none)] ++ (Clu.layB []))) 1001 (Clu.exOf 0) (Clu.mkFr 35 (Clu.std [0, 3, 7, 8] [(Clu.AV.s n N), (Clu.AV.so 1000 0 1 n), (Clu.AV.i IntKind.i64 (Int.ofNat n)), (Clu.AV.i IntKind.i64 (Int.ofNat (i + 1)))] [9, 15, 16, 18, 19, 21, 31] os')) (Clu.mkH .e ([(1000, .c (Clu.splice cs (0 + (i * 1)) [(Clu.AV.i IntKind.u8 (Int.ofNat (Clu.modN (Int.ofNat ((Clu.byteN N i) + 32)) 256)))]) 0 1 none)] ++ (Clu.layB []))) 1001 :=
  Clu.segM (vs := [(Clu.AV.s n N), (Clu.AV.so 1000 0 1 n), (Clu.AV.i IntKind.i64 (Int.ofNat n)), (Clu.AV.i IntKind.i64 (Int.ofNat (i + 1)))]) (cs := [(Clu.splice cs (0 + (i * 1)) [(Clu.AV.i IntKind.u8 (Int.ofNat (Clu.modN (Int.ofNat ((Clu.byteN N i) + 32)) 256)))])]) 0 0 [0, 3, 7, 8] [(1000, 0, 1, none)] (Clu.evL_ok Clu.plain (Clu.noX_ok) (Clu.drK_ok Clu.mixed) (Clu.noL_ok) 50) (Clu.layB_bs rfl (by decide) (by decide)) hos ((((((((((lowB_raw n N i cs os)).trans (Clu.forkB_t (Clu.iLt_t (Int.ofNat_lt.2 c1)) _ _)).trans (Clu.needT_eq (Clu.blt_iff.2 n1) _ _)).trans (Clu.forkB_t (congrArg not (Clu.iLt_f (Int.ofNat_le.2 c2))) _ _)).trans (Clu.forkB_t (congrArg not (Clu.iLt_f (Int.ofNat_le.2 c3))) _ _)).trans (Clu.needT_eq (Clu.blt_iff.2 n2) _ _)).trans (Clu.needT_eq (Clu.ble_iff.2 n3) _ _)).trans (Clu.needT_eq (Clu.inR_nat (k := .i64) n4) _ _)).trans (Clu.needT_eq (hos _) _ _)) rfl rfl rfl (by decide) rfl (by simp [Clu.Blk.und, Clu.AV.und, Clu.AV.unds, hu]) rfl (Clu.newH_ro rfl) (by simp [Clu.AV.und, Clu.AV.unds, Clu.AV.cells, Clu.unds_splice, hu])
set_option maxRecDepth 10000000 in
theorem lowF_raw (n N : Nat) (up : Bool) (cs : List Clu.AV) : (Clu.layK [] .e fun h => Clu.runL (Clu.addL (Clu.noL) (Clu.loopNo Try.f35 0) 3 (Clu.loopM [3000018, 3000032, 3000038, 3000042, 3000062] Try.prog (Clu.loopNo Try.f35 0) [0, 3, 7, 8] [9, 15, 16, 18, 19, 21, 31] [] [] (fun _ _ _ => .fork up (.leaf (2, [0, 3], [.s n N, .sn], [], 1000)) (.leaf (2, [0, 3], [.s n N, .so 1000 0 1 n], [(1000, .c cs 0 1 none)], 1001))))) Try.prog (Clu.tell (Clu.noX) 35 30000623000042300003830000323000018) (n + 1000) 1000 35 [.s n N] h 1000) = Clu.needP ((Clu.loopNo Try.f35 0) = (Clu.loopNo Try.f35 0)) (fun _ => .err 91 0) (fun h600 => Clu.forkB (up) (Clu.needP (Clu.LoopQ (Try.prog) ((Clu.loopNo Try.f35 0)) ((n + 995)) (35) (1000) ([]) (1000) (2) ([0, 3, 7, 8]) ([(Clu.AV.s n N), Clu.AV.sn, (Clu.AV.i IntKind.i64 (Int.ofNat n)), (Clu.AV.i IntKind.i64 (Int.ofNat 0))]) ([9, 15, 16, 18, 19, 21, 31]) ([0, 3]) ([(Clu.AV.s n N), Clu.AV.sn]) ([]) (1000)) (fun _ => .err 93 1) (fun h598 => (Clu.Out.ok (Clu.AV.s n N)))) (Clu.needP (Clu.LoopQ (Try.prog) ((Clu.loopNo Try.f35 0)) ((n + 995)) (35) (1000) ([]) (1000) (2) ([0, 3, 7, 8]) ([(Clu.AV.s n N), Clu.AV.sn, (Clu.AV.i IntKind.i64 (Int.ofNat n)), (Clu.AV.i IntKind.i64 (Int.ofNat 0))]) ([9, 15, 16, 18, 19, 21, 31]) ([0, 3]) ([(Clu.AV.s n N), (Clu.AV.so 1000 0 1 n)]) ([(1000, (Clu.Blk.c cs 0 1 Option.none))]) (1001)) (fun _ => .err 93 1) (fun h598 => Clu.needT ((Nat.ble n (List.length (List.drop 0 cs)))) (.err 1 0) (Clu.needT ((List.all (List.take n (List.drop 0 cs)) Clu.isU8)) (.err 3 0) ((Clu.Out.ok (Clu.AV.s (List.length (List.take n (List.drop 0 cs))) (Clu.pk (List.map Clu.u8N (List.take n (List.drop 0 cs))))))))))) := by kernel_rfl
set_option linter.unusedVariables false in
theorem lowF_0 (n N : Nat) (up : Bool) (cs : List Clu.AV)  (c1 : up = false) (p_h598 : Clu.LoopQ (Try.prog) ((Clu.loopNo Try.f35 0)) ((n + 995)) (35) (1000) ([]) (1000) (2) ([0, 3, 7, 8]) ([(Clu.AV.s n N), Clu.AV.sn, (Clu.AV.i IntKind.i64 (Int.ofNat n)), (Clu.AV.i IntKind.i64 (Int.ofNat 0))]) ([9, 15, 16, 18, 19, 21, 31]) ([0, 3]) ([(Clu.AV.s n N), Clu.AV.sn]) ([]) (1000)) : Clu.Fact Try.prog 35 [] [.s n N] (Clu.AV.s n N) :=
  Clu.factL Clu.plain (Clu.tell_ok (Clu.noX_ok)) Clu.mixed (Clu.addL_ok (Clu.noL_ok) Clu.loopM_ok) (((((lowF_raw n N up cs)).trans (Clu.needP_eq rfl _ _)).trans (Clu.forkB_f (c1) _ _)).trans (Clu.needP_eq p_h598 _ _)) rfl (rfl)
set_option linter.unusedVariables false in
theorem lowF_1 (n N : Nat) (up : Bool) (cs : List Clu.AV)  (c1 : up = true) (p_h598 : Clu.LoopQ (Try.prog) ((Clu.loopNo Try.f35 0)) ((n + 995)) (35) (1000) ([]) (1000) (2) ([0, 3, 7, 8]) ([(Clu.AV.s n N), Clu.AV.sn, (Clu.AV.i IntKind.i64 (Int.ofNat n)), (Clu.AV.i IntKind.i64 (Int.ofNat 0))]) ([9, 15, 16, 18, 19, 21, 31]) ([0, 3]) ([(Clu.AV.s n N), (Clu.AV.so 1000 0 1 n)]) ([(1000, (Clu.Blk.c cs 0 1 Option.none))]) (1001)) (n1 : n ≤ (List.length (List.drop 0 cs)) := by first | omega | (simp; omega)) (n2 : (List.all (List.take n (List.drop 0 cs)) Clu.isU8) = true) : Clu.Fact Try.prog 35 [] [.s n N] (Clu.AV.s (List.length (List.take n (List.drop 0 cs))) (Clu.pk (List.map Clu.u8N (List.take n (List.drop 0 cs))))) :=
  Clu.factL Clu.plain (Clu.tell_ok (Clu.noX_ok)) Clu.mixed (Clu.addL_ok (Clu.noL_ok) Clu.loopM_ok) (((((((lowF_raw n N up cs)).trans (Clu.needP_eq rfl _ _)).trans (Clu.forkB_t (c1) _ _)).trans (Clu.needP_eq p_h598 _ _)).trans (Clu.needT_eq (Clu.ble_iff.2 n1) _ _)).trans (Clu.needT_eq (n2) _ _)) rfl (rfl)
/-! the loop -/
def lowMid (l : List Nat) (i : Nat) : List Nat := low (l.take i) ++ l.drop i
theorem lowMid_length (l : List Nat) (i : Nat) : (lowMid l i).length = l.length := by unfold lowMid; rw [List.length_append, low_length, List.length_take, List.length_drop]; omega
theorem lowMid_set {l : List Nat} {i : Nat} (h : i < l.length) : (lowMid l i).set i (lowB (l.getD i 0)) = lowMid l (i + 1) := by
  unfold lowMid
  have hl : (low (l.take i)).length = i := by rw [low_length, List.length_take]; omega
  rw [List.set_append_right _ _ (by omega), hl, Nat.sub_self, getD_drop h, List.set_cons_zero, take_succ' h]
  unfold low
  rw [List.map_append, List.append_assoc]
  rfl
theorem lowMid_on {l : List Nat} {i : Nat} (h : i < l.length) (hu : upB (l.getD i 0) = false) : lowMid l i = lowMid l (i + 1) := by
  rw [← lowMid_set h, lowB_not hu]
  unfold lowMid
  have hl : (low (l.take i)).length = i := by rw [low_length, List.length_take]; omega
  rw [List.set_append_right _ _ (by omega), hl, Nat.sub_self, getD_drop h, List.set_cons_zero]
theorem lowMid_end {l : List Nat} {i : Nat} (h : l.length ≤ i) : lowMid l i = low l := by
  unfold lowMid
  rw [List.take_of_length_le h, List.drop_eq_nil_of_le h, List.append_nil]
def LowB (l : List Nat) (fuel i : Nat) : Prop := Clu.LoopQ Try.prog (Clu.loopNo Try.f35 0) fuel 35 1000 ([(1000, .c (Clu.U8 (lowMid l i)) 0 1 none)] ++ Clu.layB []) 1001 2 [0, 3, 7, 8] [.s l.length (Clu.pk l), .so 1000 0 1 l.length, .i .i64 (.ofNat l.length), .i .i64 (.ofNat i)] [9, 15, 16, 18, 19, 21, 31] [0, 3] [.s l.length (Clu.pk l), .so 1000 0 1 l.length] ([(1000, .c (Clu.U8 (low l)) 0 1 none)] ++ Clu.layB []) 1001
theorem low_B {l : List Nat} (hB : Clu.B8 l) (hl : l.length < 9000000000000000000) : ∀ (f i : Nat), l.length ≤ i + f → LowB l (51 + f) i
  | 0, i, hf => by
    refine Clu.LoopQ.out (n := 50) (by simp [Clu.exOf]) (by omega) fun os ho => ?_
    have := lowB_0 l.length (Clu.pk l) i (Clu.U8 (lowMid l i)) os ho (Clu.U8_und _ _) (by omega)
    rw [lowMid_end (by omega)] at this ⊢
    exact this
  | f + 1, i, hf => by
    by_cases h : i < l.length
    · have hb := Clu.byteN_pk hB i
      have ih := low_B hB hl f (i + 1) (by omega)
      by_cases h1 : l.getD i 0 < 65
      · refine Clu.LoopQ.more (show 50 ≤ 51 + f by omega) (fun os ho => lowB_1 _ _ i _ os ho (Clu.U8_und _ _) h (c2 := by rw [hb]; exact h1)) ?_
        have hu : upB (l.getD i 0) = false := by unfold upB; rw [decide_eq_false (by omega)]; rfl
        rw [lowMid_on h hu]; exact ih
      · by_cases h2 : 90 < l.getD i 0
        · refine Clu.LoopQ.more (show 50 ≤ 51 + f by omega) (fun os ho => lowB_2 _ _ i _ os ho (Clu.U8_und _ _) h (c2 := by rw [hb]; omega) (c3 := by rw [hb]; exact h2)) ?_
          have hu : upB (l.getD i 0) = false := by unfold upB; rw [decide_eq_false (show ¬ l.getD i 0 ≤ 90 by omega), Bool.and_false]
          rw [lowMid_on h hu]; exact ih
        · have e : Clu.splice (Clu.U8 (lowMid l i)) (0 + i * 1) [Clu.AV.i IntKind.u8 (Int.ofNat (Clu.modN (Int.ofNat (Clu.byteN (Clu.pk l) i + 32)) 256))] = Clu.U8 (lowMid l (i + 1)) := by
            rw [hb, Nat.zero_add, Nat.mul_one]
            show Clu.splice (Clu.U8 (lowMid l i)) i [.i .u8 (.ofNat ((l.getD i 0 + 32) % 256))] = _
            rw [Clu.U8_splice (by rw [lowMid_length]; exact h), ← lowMid_set h]
            congr 2
            unfold lowB
            rw [if_pos (by omega)]
            omega
          refine Clu.LoopQ.more (show 50 ≤ 51 + f by omega) (fun os ho => lowB_3 _ _ i _ os ho (Clu.U8_und _ _) h (c2 := by rw [hb]; omega) (c3 := by rw [hb]; omega) (n3 := by rw [Clu.U8_length, lowMid_length]; omega)) ?_
          rw [e]; exact ih
    · refine Clu.LoopQ.out (n := 50) (by simp [Clu.exOf]) (by omega) fun os ho => ?_
      have := lowB_0 l.length (Clu.pk l) i (Clu.U8 (lowMid l i)) os ho (Clu.U8_und _ _) (by omega)
      rw [lowMid_end (by omega)] at this ⊢
      exact this
def LowN (l : List Nat) (fuel i : Nat) : Prop := Clu.LoopQ Try.prog (Clu.loopNo Try.f35 0) fuel 35 1000 ([] ++ Clu.layB []) 1000 2 [0, 3, 7, 8] [.s l.length (Clu.pk l), .sn, .i .i64 (.ofNat l.length), .i .i64 (.ofNat i)] [9, 15, 16, 18, 19, 21, 31] [0, 3] [.s l.length (Clu.pk l), .sn] ([] ++ Clu.layB []) 1000
def LowS (l : List Nat) (fuel i : Nat) : Prop := Clu.LoopQ Try.prog (Clu.loopNo Try.f35 0) fuel 35 1000 ([] ++ Clu.layB []) 1000 2 [0, 3, 7, 8] [.s l.length (Clu.pk l), .sn, .i .i64 (.ofNat l.length), .i .i64 (.ofNat i)] [9, 15, 16, 18, 19, 21, 31] [0, 3] [.s l.length (Clu.pk l), .so 1000 0 1 l.length] ([(1000, .c (Clu.U8 (low l)) 0 1 none)] ++ Clu.layB []) 1001
theorem low_N {l : List Nat} (hB : Clu.B8 l) (hl : l.length < 9000000000000000000) : ∀ (f i : Nat), l.length ≤ i + f → (l.drop i).any upB = false → LowN l (51 + f) i
  | 0, i, hf, hu => Clu.LoopQ.out (n := 50) (by simp [Clu.exOf]) (by omega) fun os ho => lowA_0 _ _ i os ho (by omega)
  | f + 1, i, hf, hu => by
    by_cases h : i < l.length
    · have hb := Clu.byteN_pk hB i
      rw [getD_drop h, List.any_cons, Bool.or_eq_false_iff] at hu
      have ih := low_N hB hl f (i + 1) (by omega) hu.2
      rcases upB_cases.2 hu.1 with h1 | h1
      · exact Clu.LoopQ.more (show 50 ≤ 51 + f by omega) (fun os ho => lowA_1 _ _ i os ho h (c2 := by rw [hb]; exact h1)) ih
      · exact Clu.LoopQ.more (show 50 ≤ 51 + f by omega) (fun os ho => lowA_2 _ _ i os ho h (c2 := by rw [hb]; omega) (c3 := by rw [hb]; exact h1)) ih
    · exact Clu.LoopQ.out (n := 50) (by simp [Clu.exOf]) (by omega) fun os ho => lowA_0 _ _ i os ho (by omega)
theorem low_S {l : List Nat} (hB : Clu.B8 l) (hl : l.length < 9000000000000000000) : ∀ (f i : Nat), l.length ≤ i + f → (l.take i).any upB = false → (l.drop i).any upB = true → LowS l (51 + f) i
  | 0, i, hf, h0, hu => by
    rw [List.drop_eq_nil_of_le (by omega)] at hu
    cases hu
  | f + 1, i, hf, h0, hu => by
    by_cases h : i < l.length
    · have hb := Clu.byteN_pk hB i
      cases hc : upB (l.getD i 0) with
      | false =>
        rw [getD_drop h, List.any_cons, hc, Bool.false_or] at hu
        have ih := low_S hB hl f (i + 1) (by omega) (by rw [take_succ' h, List.any_append, h0, List.any_cons, hc]; rfl) hu
        rcases upB_cases.2 hc with h1 | h1
        · exact Clu.LoopQ.more (show 50 ≤ 51 + f by omega) (fun os ho => lowA_1 _ _ i os ho h (c2 := by rw [hb]; exact h1)) ih
        · exact Clu.LoopQ.more (show 50 ≤ 51 + f by omega) (fun os ho => lowA_2 _ _ i os ho h (c2 := by rw [hb]; omega) (c3 := by rw [hb]; exact h1)) ih
      | true =>
        obtain ⟨h1, h2⟩ := upB_cases.1 hc
        have e : Clu.splice (HAppend.hAppend (List.map (fun (i_x : Nat) => (Clu.AV.i IntKind.u8 (Int.ofNat (Clu.byteN (Clu.pk l) i_x)))) (List.range l.length)) []) (0 + i * 1) [Clu.AV.i IntKind.u8 (Int.ofNat (Clu.modN (Int.ofNat (Clu.byteN (Clu.pk l) i + 32)) 256))] = Clu.U8 (lowMid l (i + 1)) := by
          rw [Clu.U8_pk hB, hb, Nat.zero_add, Nat.mul_one]
          show Clu.splice (Clu.U8 l) i [.i .u8 (.ofNat ((l.getD i 0 + 32) % 256))] = _
          rw [Clu.U8_splice h, ← lowMid_set h]
          have e2 : lowMid l i = l := by unfold lowMid; rw [low_not h0, List.take_append_drop]
          rw [e2]
          congr 2
          unfold lowB
          rw [if_pos (by omega)]
          omega
        refine Clu.LoopQ.more (show 50 ≤ 51 + f by omega) (fun os ho => lowA_3 _ _ i os ho h (c2 := by rw [hb]; omega) (c3 := by rw [hb]; omega)) ?_
        rw [e]
        exact low_B hB hl f (i + 1) (by omega)
    · rw [List.drop_eq_nil_of_le (by omega)] at hu
      cases hu
/-! the function -/
theorem lower_fact {l : List Nat} (hB : Clu.B8 l) (hl : l.length < 9000000000000000000) : Clu.Fact Try.prog 35 [] [.s l.length (Clu.pk l)] (.s (low l).length (Clu.pk (low l))) := by
  cases hu : l.any upB with
  | false =>
    have := lowF_0 l.length (Clu.pk l) false [] rfl (by
      have := low_N hB hl (l.length + 944) 0 (by omega) hu
      rw [show 51 + (l.length + 944) = l.length + 995 by omega] at this
      exact this)
    rw [low_not hu]
    exact this
  | true =>
    have := lowF_1 l.length (Clu.pk l) true (Clu.U8 (low l)) rfl (by
      have := low_S hB hl (l.length + 944) 0 (by omega) rfl hu
      rw [show 51 + (l.length + 944) = l.length + 995 by omega] at this
      exact this) (by rw [List.drop_zero, Clu.U8_length, low_length]; exact Nat.le_refl _) (by rw [List.drop_zero, Clu.U8_take]; exact Clu.U8_all _)
    rw [List.drop_zero, Clu.U8_take, Clu.U8_num, Clu.U8_length, List.take_of_length_le (by rw [low_length]; exact Nat.le_refl _)] at this
    exact this

end Go.Proofs.Ytmokdhmicdmgfaa

namespace Go.Proofs.Ytmokdhmicdmgfaa
open Go.RowKit
set_option linter.unusedVariables false
set_option linter.unusedSimpArgs false
set_option maxRecDepth 100000

noncomputable def lowH (lw : Nat → Nat → Nat) : List Clu.AV → Clu.Dec Clu.AV := fun args => match args with
  | [.s n N] => .need (Nat.blt n 9000000000000000000) (.leaf (.s n (lw n N)))
  | _ => .fail
noncomputable def mayH (my : Nat → Nat → Bool) : List Clu.AV → Clu.Dec Clu.AV := fun args => match args with
  | [.s n N] => .need (Nat.blt n 9000000000000000000) (.leaf (.b (my n N)))
  | _ => .fail

set_option maxRecDepth 10000000 in
theorem mayR_raw (n N at_ : Nat) (os : Nat → Option Clu.AV) : Clu.evL (Clu.noL) Try.prog (Clu.noX) 50 33 1000 (Clu.loopNo Try.f17 0) (Clu.tellF [3000012, 3000022, 3000032, 3000040] (Clu.mkFr 33 (Clu.std [0, 3] [.s n N, .i .i64 (.ofNat at_)] [2, 6, 10, 11, 15, 16, 20, 32] os))) (Clu.mkH (Clu.mkH .e (Clu.layB [])) []) 1000 (Clu.finM 33 1000 [2, 6, 10, 11, 15, 16, 20, 32] 0 [(0, [0, 3], [], none), (1, [2], [], none), (2, [0, 3], [], none)]) = Clu.forkB ((Clu.iLt (Int.ofNat at_) (Int.ofNat n))) (Clu.needT ((Clu.flatB (os 2))) (.err 90 1) (Clu.needT ((Clu.flatB (os 6))) (.err 90 1) (Clu.needT ((Clu.flatB (os 20))) (.err 90 1) (Clu.needT ((Clu.flatB (os 32))) (.err 90 1) ((Clu.Out.ok (Clu.AV.tu [(Clu.AV.i IntKind.i64 (Int.ofNat 2)), (Clu.AV.s n N), (Clu.AV.i IntKind.i64 (Int.ofNat at_))]))))))) (Clu.needT ((Nat.blt at_ n)) (.err 22 6) (Clu.forkB ((Bool.not (Clu.iEq (Int.ofNat (Clu.byteN N at_)) (Int.ofNat 0)))) (Clu.needT ((Clu.flatB (os 2))) (.err 90 1) (Clu.needT ((Clu.flatB (os 6))) (.err 90 1) (Clu.needT ((Clu.flatB (os 20))) (.err 90 1) (Clu.needT ((Clu.flatB (os 32))) (.err 90 1) ((Clu.Out.ok (Clu.AV.tu [(Clu.AV.i IntKind.i64 (Int.ofNat 2)), (Clu.AV.s n N), (Clu.AV.i IntKind.i64 (Int.ofNat at_))]))))))) (Clu.needT ((Nat.blt at_ n)) (.err 22 6) (Clu.forkB ((Clu.iLt (Int.ofNat 63) (Int.ofNat (Clu.byteN N at_)))) (Clu.needT ((Nat.blt at_ n)) (.err 22 6) (Clu.needT ((Clu.inR IntKind.i64 (Int.ofNat (Clu.byteN N at_)))) (.err 10 20) (Clu.needT ((Clu.inR IntKind.i64 (Int.ofNat (1 + (Clu.byteN N at_))))) (.err 10 20) (Clu.needT ((Clu.inR IntKind.i64 (Int.ofNat (at_ + (1 + (Clu.byteN N at_)))))) (.err 10 20) (Clu.needT ((Clu.flatB (os 2))) (.err 90 1) (Clu.needT ((Clu.flatB (os 6))) (.err 90 1) (Clu.needT ((Clu.flatB (os 32))) (.err 90 1) ((Clu.Out.ok (Clu.AV.tu [(Clu.AV.i IntKind.i64 (Int.ofNat 0)), (Clu.AV.s n N), (Clu.AV.i IntKind.i64 (Int.ofNat (at_ + (1 + (Clu.byteN N at_)))))])))))))))) (Clu.needT ((Clu.flatB (os 6))) (.err 90 1) (Clu.needT ((Clu.flatB (os 32))) (.err 90 1) ((Clu.Out.ok (Clu.AV.tu [(Clu.AV.i IntKind.i64 (Int.ofNat 1)), (Clu.AV.b false)]))))))))) := by kernel_rfl
set_option linter.unusedVariables false in
theorem mayR_0 (n N at_ : Nat) (os : Nat → Option Clu.AV) (hos : ∀ t, Clu.flatB (os t) = true) (hn : n ≤ 255) (c1 : n ≤ at_) : ∃ os' : Nat → Option Clu.AV, (∀ t, Clu.flatB (os' t) = true) ∧ Clu.RunE Try.prog 50 (Clu.loopNo Try.f17 0) 33 1000 (Clu.mkFr 33 (Clu.std [0, 3] [.s n N, .i .i64 (.ofNat at_)] [2, 6, 10, 11, 15, 16, 20, 32] os)) (Clu.mkH .e ([] ++ (Clu.layB []))) 1000 (Clu.exOf 2) (Clu.mkFr 33 (Clu.std [0, 3] [(Clu.AV.s n N), (Clu.AV.i IntKind.i64 (Int.ofNat at_))] [2, 6, 10, 11, 15, 16, 20, 32] os')) (Clu.mkH .e ([] ++ (Clu.layB []))) 1000 :=
  Clu.segM (vs := [(Clu.AV.s n N), (Clu.AV.i IntKind.i64 (Int.ofNat at_))]) (cs := []) 2 2 [0, 3] [] (Clu.evL_ok Clu.plain (Clu.noX_ok) (Clu.drK_ok Clu.mixed) (Clu.noL_ok) 50) (Clu.layB_bs rfl (by decide) (by decide)) hos (((((((mayR_raw n N at_ os)).trans (Clu.forkB_f (Clu.iLt_f (Int.ofNat_le.2 c1)) _ _)).trans (Clu.needT_eq (hos _) _ _)).trans (Clu.needT_eq (hos _) _ _)).trans (Clu.needT_eq (hos _) _ _)).trans (Clu.needT_eq (hos _) _ _)) rfl rfl rfl (by decide) rfl (by simp [Clu.Blk.und, Clu.AV.und, Clu.AV.unds]) rfl (Clu.newH_ro rfl) (by simp [Clu.AV.und, Clu.AV.unds, Clu.AV.cells, Clu.unds_splice])
set_option linter.unusedVariables false in
theorem mayR_1 (n N at_ : Nat) (os : Nat → Option Clu.AV) (hos : ∀ t, Clu.flatB (os t) = true) (hn : n ≤ 255) (c1 : at_ < n) (n1 : at_ < n := by omega) (c2 : (Clu.byteN N at_) = 0) : ∃ os' : Nat → Option Clu.AV, (∀ t, Clu.flatB (os' t) = true) ∧ Clu.RunE Try.prog 50 (Clu.loopNo Try.f17 0) 33 1000 (Clu.mkFr 33 (Clu.std [0, 3] [.s n N, .i .i64 (.ofNat at_)] [2, 6, 10, 11, 15, 16, 20, 32] os)) (Clu.mkH .e ([] ++ (Clu.layB []))) 1000 (Clu.exOf 2) (Clu.mkFr 33 (Clu.std [0, 3] [(Clu.AV.s n N), (Clu.AV.i IntKind.i64 (Int.ofNat at_))] [2, 6, 10, 11, 15, 16, 20, 32] os')) (Clu.mkH .e ([] ++ (Clu.layB []))) 1000 :=
  Clu.segM (vs := [(Clu.AV.s n N), (Clu.AV.i IntKind.i64 (Int.ofNat at_))]) (cs := []) 2 2 [0, 3] [] (Clu.evL_ok Clu.plain (Clu.noX_ok) (Clu.drK_ok Clu.mixed) (Clu.noL_ok) 50) (Clu.layB_bs rfl (by decide) (by decide)) hos (((((((((mayR_raw n N at_ os)).trans (Clu.forkB_t (Clu.iLt_t (Int.ofNat_lt.2 c1)) _ _)).trans (Clu.needT_eq (Clu.blt_iff.2 n1) _ _)).trans (Clu.forkB_f (congrArg not (Clu.iEq_t (congrArg Int.ofNat c2))) _ _)).trans (Clu.needT_eq (hos _) _ _)).trans (Clu.needT_eq (hos _) _ _)).trans (Clu.needT_eq (hos _) _ _)).trans (Clu.needT_eq (hos _) _ _)) rfl rfl rfl (by decide) rfl (by simp [Clu.Blk.und, Clu.AV.und, Clu.AV.unds]) rfl (Clu.newH_ro rfl) (by simp [Clu.AV.und, Clu.AV.unds, Clu.AV.cells, Clu.unds_splice])
set_option linter.unusedVariables false in
theorem mayR_2 (n N at_ : Nat) (os : Nat → Option Clu.AV) (hos : ∀ t, Clu.flatB (os t) = true) (hn : n ≤ 255) (c1 : at_ < n) (n1 : at_ < n := by omega) (c2 : (Clu.byteN N at_) ≠ 0) (n2 : at_ < n := by omega) (c3 : (Clu.byteN N at_) ≤ 63) (n3 : at_ < n := by omega) (n4 : (Clu.byteN N at_) < 9223372036854775808 := by omega) (n5 : (1 + (Clu.byteN N at_)) < 9223372036854775808 := by omega) (n6 : (at_ + (1 + (Clu.byteN N at_))) < 9223372036854775808 := by omega) : ∃ os' : Nat → Option Clu.AV, (∀ t, Clu.flatB (os' t) = true) ∧ Clu.RunE Try.prog 50 (Clu.loopNo Try.f17 0) 33 1000 (Clu.mkFr 33 (Clu.std [0, 3] [.s n N, .i .i64 (.ofNat at_)] [2, 6, 10, 11, 15, 16, 20, 32] os)) (Clu.mkH .e ([] ++ (Clu.layB []))) 1000 (Clu.exOf 0) (Clu.mkFr 33 (Clu.std [0, 3] [(Clu.AV.s n N), (Clu.AV.i IntKind.i64 (Int.ofNat (at_ + (1 + (Clu.byteN N at_)))))] [2, 6, 10, 11, 15, 16, 20, 32] os')) (Clu.mkH .e ([] ++ (Clu.layB []))) 1000 :=
  Clu.segM (vs := [(Clu.AV.s n N), (Clu.AV.i IntKind.i64 (Int.ofNat (at_ + (1 + (Clu.byteN N at_)))))]) (cs := []) 0 0 [0, 3] [] (Clu.evL_ok Clu.plain (Clu.noX_ok) (Clu.drK_ok Clu.mixed) (Clu.noL_ok) 50) (Clu.layB_bs rfl (by decide) (by decide)) hos ((((((((((((((mayR_raw n N at_ os)).trans (Clu.forkB_t (Clu.iLt_t (Int.ofNat_lt.2 c1)) _ _)).trans (Clu.needT_eq (Clu.blt_iff.2 n1) _ _)).trans (Clu.forkB_t (congrArg not (Clu.iEq_f (fun hh => c2 (Int.ofNat.inj hh)))) _ _)).trans (Clu.needT_eq (Clu.blt_iff.2 n2) _ _)).trans (Clu.forkB_f (Clu.iLt_f (Int.ofNat_le.2 c3)) _ _)).trans (Clu.needT_eq (Clu.blt_iff.2 n3) _ _)).trans (Clu.needT_eq (Clu.inR_nat (k := .i64) n4) _ _)).trans (Clu.needT_eq (Clu.inR_nat (k := .i64) n5) _ _)).trans (Clu.needT_eq (Clu.inR_nat (k := .i64) n6) _ _)).trans (Clu.needT_eq (hos _) _ _)).trans (Clu.needT_eq (hos _) _ _)).trans (Clu.needT_eq (hos _) _ _)) rfl rfl rfl (by decide) rfl (by simp [Clu.Blk.und, Clu.AV.und, Clu.AV.unds]) rfl (Clu.newH_ro rfl) (by simp [Clu.AV.und, Clu.AV.unds, Clu.AV.cells, Clu.unds_splice])
set_option linter.unusedVariables false in
theorem mayR_3 (n N at_ : Nat) (os : Nat → Option Clu.AV) (hos : ∀ t, Clu.flatB (os t) = true) (hn : n ≤ 255) (c1 : at_ < n) (n1 : at_ < n := by omega) (c2 : (Clu.byteN N at_) ≠ 0) (n2 : at_ < n := by omega) (c3 : 63 < (Clu.byteN N at_)) : ∃ os' : Nat → Option Clu.AV, (∀ t, Clu.flatB (os' t) = true) ∧ Clu.RunE Try.prog 50 (Clu.loopNo Try.f17 0) 33 1000 (Clu.mkFr 33 (Clu.std [0, 3] [.s n N, .i .i64 (.ofNat at_)] [2, 6, 10, 11, 15, 16, 20, 32] os)) (Clu.mkH .e ([] ++ (Clu.layB []))) 1000 (Clu.exOf 1) (Clu.mkFr 33 (Clu.std [2] [(Clu.AV.b false)] [2, 6, 10, 11, 15, 16, 20, 32] os')) (Clu.mkH .e ([] ++ (Clu.layB []))) 1000 :=
  Clu.segM (vs := [(Clu.AV.b false)]) (cs := []) 1 1 [2] [] (Clu.evL_ok Clu.plain (Clu.noX_ok) (Clu.drK_ok Clu.mixed) (Clu.noL_ok) 50) (Clu.layB_bs rfl (by decide) (by decide)) hos (((((((((mayR_raw n N at_ os)).trans (Clu.forkB_t (Clu.iLt_t (Int.ofNat_lt.2 c1)) _ _)).trans (Clu.needT_eq (Clu.blt_iff.2 n1) _ _)).trans (Clu.forkB_t (congrArg not (Clu.iEq_f (fun hh => c2 (Int.ofNat.inj hh)))) _ _)).trans (Clu.needT_eq (Clu.blt_iff.2 n2) _ _)).trans (Clu.forkB_t (Clu.iLt_t (Int.ofNat_lt.2 c3)) _ _)).trans (Clu.needT_eq (hos _) _ _)).trans (Clu.needT_eq (hos _) _ _)) rfl rfl rfl (by decide) rfl (by simp [Clu.Blk.und, Clu.AV.und, Clu.AV.unds]) rfl (Clu.newH_ro rfl) (by simp [Clu.AV.und, Clu.AV.unds, Clu.AV.cells, Clu.unds_splice])
set_option maxRecDepth 10000000 in
theorem mayF_raw (n N e : Nat) (bad : Bool) : (Clu.layK [] .e fun h => Clu.runL (Clu.addL (Clu.noL) (Clu.loopNo Try.f17 0) 4 (Clu.loopM [3000012, 3000022, 3000032, 3000040] Try.prog (Clu.loopNo Try.f17 0) [0, 3] [2, 6, 10, 11, 15, 16, 20, 32] [] [] (fun _ _ _ => .fork bad (.leaf (2, [0, 3], [.s n N, .i .i64 (.ofNat e)], [], 1000)) (.leaf (1, [2], [.b false], [], 1000))))) Try.prog (Clu.tell (Clu.noX) 17 3000040300003230000223000012) (1000) 1000 17 [.s n N] h 1000) = Clu.forkB ((Clu.iLt (Int.ofNat 255) (Int.ofNat n))) (Clu.needP ((Clu.loopNo Try.f17 0) = (Clu.loopNo Try.f17 0)) (fun _ => .err 91 0) (fun h599 => Clu.forkB (bad) (Clu.needP (Clu.LoopQ (Try.prog) ((Clu.loopNo Try.f17 0)) (995) (33) (1000) ([]) (1000) (2) ([0, 3]) ([(Clu.AV.s n N), (Clu.AV.i IntKind.i64 (Int.ofNat 0))]) ([2, 6, 10, 11, 15, 16, 20, 32]) ([0, 3]) ([(Clu.AV.s n N), (Clu.AV.i IntKind.i64 (Int.ofNat e))]) ([]) (1000)) (fun _ => .err 93 1) (fun h597 => Clu.needT ((Clu.inR IntKind.i64 ((Int.ofNat n) - (Int.ofNat 1)))) (.err 10 20) ((Clu.Out.ok (Clu.AV.b (Clu.iEq (Int.ofNat e) ((Int.ofNat n) - (Int.ofNat 1)))))))) (Clu.needP (Clu.LoopQ (Try.prog) ((Clu.loopNo Try.f17 0)) (995) (33) (1000) ([]) (1000) (1) ([0, 3]) ([(Clu.AV.s n N), (Clu.AV.i IntKind.i64 (Int.ofNat 0))]) ([2, 6, 10, 11, 15, 16, 20, 32]) ([2]) ([(Clu.AV.b false)]) ([]) (1000)) (fun _ => .err 93 1) (fun h597 => (Clu.Out.ok (Clu.AV.b false)))))) ((Clu.Out.ok (Clu.AV.b false))) := by kernel_rfl
set_option linter.unusedVariables false in
theorem mayF_0 (n N e : Nat) (bad : Bool)  (c1 : n ≤ 255) (c2 : bad = false) (p_h597 : Clu.LoopQ (Try.prog) ((Clu.loopNo Try.f17 0)) (995) (33) (1000) ([]) (1000) (2) ([0, 3]) ([(Clu.AV.s n N), (Clu.AV.i IntKind.i64 (Int.ofNat 0))]) ([2, 6, 10, 11, 15, 16, 20, 32]) ([0, 3]) ([(Clu.AV.s n N), (Clu.AV.i IntKind.i64 (Int.ofNat e))]) ([]) (1000)) (n1 : -9223372036854775808 ≤ (((n : Nat) : Int) - ((1 : Nat) : Int)) ∧ (((n : Nat) : Int) - ((1 : Nat) : Int)) < 9223372036854775808 := by omega) : Clu.Fact Try.prog 17 [] [.s n N] (Clu.AV.b (Clu.iEq (Int.ofNat e) ((Int.ofNat n) - (Int.ofNat 1)))) :=
  Clu.factL Clu.plain (Clu.tell_ok (Clu.noX_ok)) Clu.mixed (Clu.addL_ok (Clu.noL_ok) Clu.loopM_ok) (((((((mayF_raw n N e bad)).trans (Clu.forkB_f (Clu.iLt_f (Int.ofNat_le.2 c1)) _ _)).trans (Clu.needP_eq rfl _ _)).trans (Clu.forkB_f (c2) _ _)).trans (Clu.needP_eq p_h597 _ _)).trans (Clu.needT_eq (Clu.inR_int (k := .i64) (half := 9223372036854775808) rfl n1) _ _)) rfl (rfl)
set_option linter.unusedVariables false in
theorem mayF_1 (n N e : Nat) (bad : Bool)  (c1 : n ≤ 255) (c2 : bad = true) (p_h597 : Clu.LoopQ (Try.prog) ((Clu.loopNo Try.f17 0)) (995) (33) (1000) ([]) (1000) (1) ([0, 3]) ([(Clu.AV.s n N), (Clu.AV.i IntKind.i64 (Int.ofNat 0))]) ([2, 6, 10, 11, 15, 16, 20, 32]) ([2]) ([(Clu.AV.b false)]) ([]) (1000)) : Clu.Fact Try.prog 17 [] [.s n N] (Clu.AV.b false) :=
  Clu.factL Clu.plain (Clu.tell_ok (Clu.noX_ok)) Clu.mixed (Clu.addL_ok (Clu.noL_ok) Clu.loopM_ok) ((((((mayF_raw n N e bad)).trans (Clu.forkB_f (Clu.iLt_f (Int.ofNat_le.2 c1)) _ _)).trans (Clu.needP_eq rfl _ _)).trans (Clu.forkB_t (c2) _ _)).trans (Clu.needP_eq p_h597 _ _)) rfl (rfl)
set_option linter.unusedVariables false in
theorem mayF_2 (n N e : Nat) (bad : Bool)  (c1 : 255 < n) : Clu.Fact Try.prog 17 [] [.s n N] (Clu.AV.b false) :=
  Clu.factL Clu.plain (Clu.tell_ok (Clu.noX_ok)) Clu.mixed (Clu.addL_ok (Clu.noL_ok) Clu.loopM_ok) (((mayF_raw n N e bad)).trans (Clu.forkB_t (Clu.iLt_t (Int.ofNat_lt.2 c1)) _ _)) rfl (rfl)
set_option maxRecDepth 10000000 in
theorem withR_raw (n N m M at_ : Nat) (os : Nat → Option Clu.AV) : Clu.evL (Clu.noL) Try.prog (Clu.noX) 50 35 1000 (Clu.loopNo Try.f24 0) (Clu.tellF [3000018, 3000026, 3000040] (Clu.mkFr 35 (Clu.std [0, 1, 5] [.s n N, .s m M, .i .i64 (.ofNat at_)] [4, 7, 8, 9, 11, 12, 13, 20, 34] os))) (Clu.mkH (Clu.mkH .e (Clu.layB [])) []) 1000 (Clu.finM 35 1000 [4, 7, 8, 9, 11, 12, 13, 20, 34] 0 [(0, [0, 1, 5], [], none), (2, [0, 1, 5], [], none)]) = Clu.needT ((Clu.inR IntKind.i64 ((Int.ofNat n) - (Int.ofNat at_)))) (.err 10 20) (Clu.forkB ((Clu.iLt (Int.ofNat m) ((Int.ofNat n) - (Int.ofNat at_)))) (Clu.needT ((Clu.flatB (os 4))) (.err 90 1) (Clu.needT ((Clu.flatB (os 7))) (.err 90 1) (Clu.needT ((Clu.flatB (os 8))) (.err 90 1) (Clu.needT ((Clu.flatB (os 9))) (.err 90 1) (Clu.needT ((Clu.flatB (os 11))) (.err 90 1) (Clu.needT ((Clu.flatB (os 12))) (.err 90 1) (Clu.needT ((Clu.flatB (os 13))) (.err 90 1) (Clu.needT ((Clu.flatB (os 34))) (.err 90 1) ((Clu.Out.ok (Clu.AV.tu [(Clu.AV.i IntKind.i64 (Int.ofNat 1)), (Clu.AV.s n N), (Clu.AV.s m M), (Clu.AV.i IntKind.i64 (Int.ofNat at_))]))))))))))) (Clu.needT ((Nat.blt at_ n)) (.err 22 6) (Clu.needT ((Clu.inR IntKind.i64 (Int.ofNat (Clu.byteN N at_)))) (.err 10 20) (Clu.needT ((Clu.inR IntKind.i64 (Int.ofNat (1 + (Clu.byteN N at_))))) (.err 10 20) (Clu.needT ((Clu.inR IntKind.i64 (Int.ofNat (at_ + (1 + (Clu.byteN N at_)))))) (.err 10 20) (Clu.needT ((Clu.flatB (os 4))) (.err 90 1) (Clu.needT ((Clu.flatB (os 7))) (.err 90 1) (Clu.needT ((Clu.flatB (os 8))) (.err 90 1) (Clu.needT ((Clu.flatB (os 9))) (.err 90 1) (Clu.needT ((Clu.flatB (os 11))) (.err 90 1) (Clu.needT ((Clu.flatB (os 12))) (.err 90 1) (Clu.needT ((Clu.flatB (os 13))) (.err 90 1) (Clu.needT ((Clu.flatB (os 34))) (.err 90 1) ((Clu.Out.ok (Clu.AV.tu [(Clu.AV.i IntKind.i64 (Int.ofNat 0)), (Clu.AV.s n N), (Clu.AV.s m M), (Clu.AV.i IntKind.i64 (Int.ofNat (at_ + (1 + (Clu.byteN N at_)))))])))))))))))))))) := by kernel_rfl
set_option linter.unusedVariables false in
theorem withR_0 (n N m M at_ : Nat) (os : Nat → Option Clu.AV) (hos : ∀ t, Clu.flatB (os t) = true) (hn : n ≤ 255) (n1 : -9223372036854775808 ≤ (((n : Nat) : Int) - ((at_ : Nat) : Int)) ∧ (((n : Nat) : Int) - ((at_ : Nat) : Int)) < 9223372036854775808 := by omega) (c1 : (((n : Nat) : Int) - ((at_ : Nat) : Int)) ≤ ((m : Nat) : Int)) : ∃ os' : Nat → Option Clu.AV, (∀ t, Clu.flatB (os' t) = true) ∧ Clu.RunE Try.prog 50 (Clu.loopNo Try.f24 0) 35 1000 (Clu.mkFr 35 (Clu.std [0, 1, 5] [.s n N, .s m M, .i .i64 (.ofNat at_)] [4, 7, 8, 9, 11, 12, 13, 20, 34] os)) (Clu.mkH .e ([] ++ (Clu.layB []))) 1000 (Clu.exOf 2) (Clu.mkFr 35 (Clu.std [0, 1, 5] [(Clu.AV.s n N), (Clu.AV.s m M), (Clu.AV.i IntKind.i64 (Int.ofNat at_))] [4, 7, 8, 9, 11, 12, 13, 20, 34] os')) (Clu.mkH .e ([] ++ (Clu.layB []))) 1000 :=
  Clu.segM (vs := [(Clu.AV.s n N), (Clu.AV.s m M), (Clu.AV.i IntKind.i64 (Int.ofNat at_))]) (cs := []) 1 2 [0, 1, 5] [] (Clu.evL_ok Clu.plain (Clu.noX_ok) (Clu.drK_ok Clu.mixed) (Clu.noL_ok) 50) (Clu.layB_bs rfl (by decide) (by decide)) hos ((((((((((((withR_raw n N m M at_ os)).trans (Clu.needT_eq (Clu.inR_int (k := .i64) (half := 9223372036854775808) rfl n1) _ _)).trans (Clu.forkB_f (Clu.iLt_f c1) _ _)).trans (Clu.needT_eq (hos _) _ _)).trans (Clu.needT_eq (hos _) _ _)).trans (Clu.needT_eq (hos _) _ _)).trans (Clu.needT_eq (hos _) _ _)).trans (Clu.needT_eq (hos _) _ _)).trans (Clu.needT_eq (hos _) _ _)).trans (Clu.needT_eq (hos _) _ _)).trans (Clu.needT_eq (hos _) _ _)) rfl rfl rfl (by decide) rfl (by simp [Clu.Blk.und, Clu.AV.und, Clu.AV.unds]) rfl (Clu.newH_ro rfl) (by simp [Clu.AV.und, Clu.AV.unds, Clu.AV.cells, Clu.unds_splice])
set_option linter.unusedVariables false in
theorem withR_1 (n N m M at_ : Nat) (os : Nat → Option Clu.AV) (hos : ∀ t, Clu.flatB (os t) = true) (hn : n ≤ 255) (n1 : -9223372036854775808 ≤ (((n : Nat) : Int) - ((at_ : Nat) : Int)) ∧ (((n : Nat) : Int) - ((at_ : Nat) : Int)) < 9223372036854775808 := by omega) (c1 : ((m : Nat) : Int) < (((n : Nat) : Int) - ((at_ : Nat) : Int))) (n2 : at_ < n := by omega) (n3 : (Clu.byteN N at_) < 9223372036854775808 := by omega) (n4 : (1 + (Clu.byteN N at_)) < 9223372036854775808 := by omega) (n5 : (at_ + (1 + (Clu.byteN N at_))) < 9223372036854775808 := by omega) : ∃ os' : Nat → Option Clu.AV, (∀ t, Clu.flatB (os' t) = true) ∧ Clu.RunE Try.prog 50 (Clu.loopNo Try.f24 0) 35 1000 (Clu.mkFr 35 (Clu.std [0, 1, 5] [.s n N, .s m M, .i .i64 (.ofNat at_)] [4, 7, 8, 9, 11, 12, 13, 20, 34] os)) (Clu.mkH .e ([] ++ (Clu.layB []))) 1000 (Clu.exOf 0) (Clu.mkFr 35 (Clu.std [0, 1, 5] [(Clu.AV.s n N), (Clu.AV.s m M), (Clu.AV.i IntKind.i64 (Int.ofNat (at_ + (1 + (Clu.byteN N at_)))))] [4, 7, 8, 9, 11, 12, 13, 20, 34] os')) (Clu.mkH .e ([] ++ (Clu.layB []))) 1000 :=
  Clu.segM (vs := [(Clu.AV.s n N), (Clu.AV.s m M), (Clu.AV.i IntKind.i64 (Int.ofNat (at_ + (1 + (Clu.byteN N at_)))))]) (cs := []) 0 0 [0, 1, 5] [] (Clu.evL_ok Clu.plain (Clu.noX_ok) (Clu.drK_ok Clu.mixed) (Clu.noL_ok) 50) (Clu.layB_bs rfl (by decide) (by decide)) hos ((((((((((((((((withR_raw n N m M at_ os)).trans (Clu.needT_eq (Clu.inR_int (k := .i64) (half := 9223372036854775808) rfl n1) _ _)).trans (Clu.forkB_t (Clu.iLt_t c1) _ _)).trans (Clu.needT_eq (Clu.blt_iff.2 n2) _ _)).trans (Clu.needT_eq (Clu.inR_nat (k := .i64) n3) _ _)).trans (Clu.needT_eq (Clu.inR_nat (k := .i64) n4) _ _)).trans (Clu.needT_eq (Clu.inR_nat (k := .i64) n5) _ _)).trans (Clu.needT_eq (hos _) _ _)).trans (Clu.needT_eq (hos _) _ _)).trans (Clu.needT_eq (hos _) _ _)).trans (Clu.needT_eq (hos _) _ _)).trans (Clu.needT_eq (hos _) _ _)).trans (Clu.needT_eq (hos _) _ _)).trans (Clu.needT_eq (hos _) _ _)).trans (Clu.needT_eq (hos _) _ _)) rfl rfl rfl (by decide) rfl (by simp [Clu.Blk.und, Clu.AV.und, Clu.AV.unds]) rfl (Clu.newH_ro rfl) (by simp [Clu.AV.und, Clu.AV.unds, Clu.AV.cells, Clu.unds_splice])
set_option maxRecDepth 10000000 in
theorem withF_raw (lw : Nat → Nat → Nat) (my : Nat → Nat → Bool) (n N m M e : Nat) : (Clu.layK [] .e fun h => Clu.runL (Clu.addL (Clu.noL) (Clu.loopNo Try.f24 0) 4 (Clu.loopM [3000018, 3000026, 3000040] Try.prog (Clu.loopNo Try.f24 0) [0, 1, 5] [4, 7, 8, 9, 11, 12, 13, 20, 34] [] [] (fun _ _ _ => .leaf (2, [0, 1, 5], [.s n N, .s m M, .i .i64 (.ofNat e)], [], 1000)))) Try.prog (Clu.tell (Clu.addB (Clu.addB Clu.noX 35 (Clu.decH (lowH lw))) 17 (Clu.decH (mayH my))) 24 300004030000263000018) (1000) 1000 24 [.s n N, .s m M] h 1000) = Clu.needT ((Nat.blt n 9000000000000000000)) (.err 96 1) (Clu.forkB ((Bool.not (my n N))) (Clu.needT ((Nat.blt m 9000000000000000000)) (.err 96 1) (Clu.forkB ((Bool.not (my m M))) (Clu.needP ((Clu.loopNo Try.f24 0) = (Clu.loopNo Try.f24 0)) (fun _ => .err 91 0) (fun h596 => Clu.needP (Clu.LoopQ (Try.prog) ((Clu.loopNo Try.f24 0)) (995) (35) (1000) ([]) (1000) (2) ([0, 1, 5]) ([(Clu.AV.s n N), (Clu.AV.s m M), (Clu.AV.i IntKind.i64 (Int.ofNat 0))]) ([4, 7, 8, 9, 11, 12, 13, 20, 34]) ([0, 1, 5]) ([(Clu.AV.s n N), (Clu.AV.s m M), (Clu.AV.i IntKind.i64 (Int.ofNat e))]) ([]) (1000)) (fun _ => .err 93 1) (fun h595 => Clu.needT ((Nat.ble e n)) (.err 20 0) (Clu.needT ((Nat.blt (n - e) 9000000000000000000)) (.err 96 1) (Clu.needT ((Nat.blt m 9000000000000000000)) (.err 96 1) ((Clu.Out.ok (Clu.AV.b (Clu.eqNs (n - e) (lw (n - e) (Clu.maskN (n - e) (Nat.shiftRight N (8 * e)))) m (lw m M)))))))))) ((Clu.Out.ok (Clu.AV.b false))))) ((Clu.Out.ok (Clu.AV.b false)))) := by kernel_rfl
set_option linter.unusedVariables false in
theorem withF_0 (lw : Nat → Nat → Nat) (my : Nat → Nat → Bool) (n N m M e : Nat) (hX : Clu.XOK Try.prog (Clu.addB (Clu.addB Clu.noX 35 (Clu.decH (lowH lw))) 17 (Clu.decH (mayH my))))  (n1 : n < 9000000000000000000 := by omega) (c1 : (my n N) = true) (n2 : m < 9000000000000000000 := by omega) (c2 : (my m M) = true) (p_h595 : Clu.LoopQ (Try.prog) ((Clu.loopNo Try.f24 0)) (995) (35) (1000) ([]) (1000) (2) ([0, 1, 5]) ([(Clu.AV.s n N), (Clu.AV.s m M), (Clu.AV.i IntKind.i64 (Int.ofNat 0))]) ([4, 7, 8, 9, 11, 12, 13, 20, 34]) ([0, 1, 5]) ([(Clu.AV.s n N), (Clu.AV.s m M), (Clu.AV.i IntKind.i64 (Int.ofNat e))]) ([]) (1000)) (n3 : e ≤ n := by omega) (n4 : (n - e) < 9000000000000000000 := by omega) (n5 : m < 9000000000000000000 := by omega) : Clu.Fact Try.prog 24 [] [.s n N, .s m M] (Clu.AV.b (Clu.eqNs (n - e) (lw (n - e) (Clu.maskN (n - e) (Nat.shiftRight N (8 * e)))) m (lw m M))) :=
  Clu.factL Clu.plain (Clu.tell_ok (hX)) Clu.mixed (Clu.addL_ok (Clu.noL_ok) Clu.loopM_ok) (((((((((((withF_raw lw my n N m M e)).trans (Clu.needT_eq (Clu.blt_iff.2 n1) _ _)).trans (Clu.forkB_f (congrArg not (c1)) _ _)).trans (Clu.needT_eq (Clu.blt_iff.2 n2) _ _)).trans (Clu.forkB_f (congrArg not (c2)) _ _)).trans (Clu.needP_eq rfl _ _)).trans (Clu.needP_eq p_h595 _ _)).trans (Clu.needT_eq (Clu.ble_iff.2 n3) _ _)).trans (Clu.needT_eq (Clu.blt_iff.2 n4) _ _)).trans (Clu.needT_eq (Clu.blt_iff.2 n5) _ _)) rfl (rfl)
set_option linter.unusedVariables false in
theorem withF_1 (lw : Nat → Nat → Nat) (my : Nat → Nat → Bool) (n N m M e : Nat) (hX : Clu.XOK Try.prog (Clu.addB (Clu.addB Clu.noX 35 (Clu.decH (lowH lw))) 17 (Clu.decH (mayH my))))  (n1 : n < 9000000000000000000 := by omega) (c1 : (my n N) = true) (n2 : m < 9000000000000000000 := by omega) (c2 : (my m M) = false) : Clu.Fact Try.prog 24 [] [.s n N, .s m M] (Clu.AV.b false) :=
  Clu.factL Clu.plain (Clu.tell_ok (hX)) Clu.mixed (Clu.addL_ok (Clu.noL_ok) Clu.loopM_ok) ((((((withF_raw lw my n N m M e)).trans (Clu.needT_eq (Clu.blt_iff.2 n1) _ _)).trans (Clu.forkB_f (congrArg not (c1)) _ _)).trans (Clu.needT_eq (Clu.blt_iff.2 n2) _ _)).trans (Clu.forkB_t (congrArg not (c2)) _ _)) rfl (rfl)
set_option linter.unusedVariables false in
theorem withF_2 (lw : Nat → Nat → Nat) (my : Nat → Nat → Bool) (n N m M e : Nat) (hX : Clu.XOK Try.prog (Clu.addB (Clu.addB Clu.noX 35 (Clu.decH (lowH lw))) 17 (Clu.decH (mayH my))))  (n1 : n < 9000000000000000000 := by omega) (c1 : (my n N) = false) : Clu.Fact Try.prog 24 [] [.s n N, .s m M] (Clu.AV.b false) :=
  Clu.factL Clu.plain (Clu.tell_ok (hX)) Clu.mixed (Clu.addL_ok (Clu.noL_ok) Clu.loopM_ok) ((((withF_raw lw my n N m M e)).trans (Clu.needT_eq (Clu.blt_iff.2 n1) _ _)).trans (Clu.forkB_t (congrArg not (c1)) _ _)) rfl (rfl)
set_option maxRecDepth 10000000 in
theorem sameF_raw (lw : Nat → Nat → Nat) (my : Nat → Nat → Bool) (n N m M : Nat) : (Clu.layK [] .e fun h => Clu.runL (Clu.noL) Try.prog (Clu.tell (Clu.addB (Clu.addB Clu.noX 35 (Clu.decH (lowH lw))) 17 (Clu.decH (mayH my))) 22 30000223000014) (1000) 1000 22 [.s n N, .s m M] h 1000) = Clu.needT ((Nat.blt n 9000000000000000000)) (.err 96 1) (Clu.forkB ((my n N)) ((Clu.Out.ok (Clu.AV.b false))) (Clu.needT ((Nat.blt m 9000000000000000000)) (.err 96 1) (Clu.forkB ((my m M)) ((Clu.Out.ok (Clu.AV.b false))) (Clu.needT ((Nat.blt n 9000000000000000000)) (.err 96 1) (Clu.needT ((Nat.blt m 9000000000000000000)) (.err 96 1) ((Clu.Out.ok (Clu.AV.b (Clu.eqNs n (lw n N) m (lw m M)))))))))) := by kernel_rfl
set_option linter.unusedVariables false in
theorem sameF_0 (lw : Nat → Nat → Nat) (my : Nat → Nat → Bool) (n N m M : Nat) (hX : Clu.XOK Try.prog (Clu.addB (Clu.addB Clu.noX 35 (Clu.decH (lowH lw))) 17 (Clu.decH (mayH my))))  (n1 : n < 9000000000000000000 := by omega) (c1 : (my n N) = false) : Clu.Fact Try.prog 22 [] [.s n N, .s m M] (Clu.AV.b false) :=
  Clu.factL Clu.plain (Clu.tell_ok (hX)) Clu.mixed (Clu.noL_ok) ((((sameF_raw lw my n N m M)).trans (Clu.needT_eq (Clu.blt_iff.2 n1) _ _)).trans (Clu.forkB_f (c1) _ _)) rfl (rfl)
set_option linter.unusedVariables false in
theorem sameF_1 (lw : Nat → Nat → Nat) (my : Nat → Nat → Bool) (n N m M : Nat) (hX : Clu.XOK Try.prog (Clu.addB (Clu.addB Clu.noX 35 (Clu.decH (lowH lw))) 17 (Clu.decH (mayH my))))  (n1 : n < 9000000000000000000 := by omega) (c1 : (my n N) = true) (n2 : m < 9000000000000000000 := by omega) (c2 : (my m M) = false) : Clu.Fact Try.prog 22 [] [.s n N, .s m M] (Clu.AV.b false) :=
  Clu.factL Clu.plain (Clu.tell_ok (hX)) Clu.mixed (Clu.noL_ok) ((((((sameF_raw lw my n N m M)).trans (Clu.needT_eq (Clu.blt_iff.2 n1) _ _)).trans (Clu.forkB_t (c1) _ _)).trans (Clu.needT_eq (Clu.blt_iff.2 n2) _ _)).trans (Clu.forkB_f (c2) _ _)) rfl (rfl)
set_option linter.unusedVariables false in
theorem sameF_2 (lw : Nat → Nat → Nat) (my : Nat → Nat → Bool) (n N m M : Nat) (hX : Clu.XOK Try.prog (Clu.addB (Clu.addB Clu.noX 35 (Clu.decH (lowH lw))) 17 (Clu.decH (mayH my))))  (n1 : n < 9000000000000000000 := by omega) (c1 : (my n N) = true) (n2 : m < 9000000000000000000 := by omega) (c2 : (my m M) = true) (n3 : n < 9000000000000000000 := by omega) (n4 : m < 9000000000000000000 := by omega) : Clu.Fact Try.prog 22 [] [.s n N, .s m M] (Clu.AV.b (Clu.eqNs n (lw n N) m (lw m M))) :=
  Clu.factL Clu.plain (Clu.tell_ok (hX)) Clu.mixed (Clu.noL_ok) ((((((((sameF_raw lw my n N m M)).trans (Clu.needT_eq (Clu.blt_iff.2 n1) _ _)).trans (Clu.forkB_t (c1) _ _)).trans (Clu.needT_eq (Clu.blt_iff.2 n2) _ _)).trans (Clu.forkB_t (c2) _ _)).trans (Clu.needT_eq (Clu.blt_iff.2 n3) _ _)).trans (Clu.needT_eq (Clu.blt_iff.2 n4) _ _)) rfl (rfl)
set_option maxRecDepth 10000000 in
theorem foldF_raw (lw : Nat → Nat → Nat) (my : Nat → Nat → Bool) (n N : Nat) : (Clu.layK [] .e fun h => Clu.runL (Clu.noL) Try.prog (Clu.tell (Clu.addB (Clu.addB Clu.noX 35 (Clu.decH (lowH lw))) 17 (Clu.decH (mayH my))) 18 3000010) (1000) 1000 18 [.s n N] h 1000) = Clu.needT ((Nat.blt n 9000000000000000000)) (.err 96 1) (Clu.forkB ((Bool.not (my n N))) (Clu.needT ((Nat.blt n 9000000000000000000)) (.err 96 1) ((Clu.Out.ok (Clu.AV.s n (lw n N))))) ((Clu.Out.ok (Clu.AV.s 0 0)))) := by kernel_rfl
set_option linter.unusedVariables false in
theorem foldF_0 (lw : Nat → Nat → Nat) (my : Nat → Nat → Bool) (n N : Nat) (hX : Clu.XOK Try.prog (Clu.addB (Clu.addB Clu.noX 35 (Clu.decH (lowH lw))) 17 (Clu.decH (mayH my))))  (n1 : n < 9000000000000000000 := by omega) (c1 : (my n N) = true) (n2 : n < 9000000000000000000 := by omega) : Clu.Fact Try.prog 18 [] [.s n N] (Clu.AV.s n (lw n N)) :=
  Clu.factL Clu.plain (Clu.tell_ok (hX)) Clu.mixed (Clu.noL_ok) (((((foldF_raw lw my n N)).trans (Clu.needT_eq (Clu.blt_iff.2 n1) _ _)).trans (Clu.forkB_f (congrArg not (c1)) _ _)).trans (Clu.needT_eq (Clu.blt_iff.2 n2) _ _)) rfl (rfl)
set_option linter.unusedVariables false in
theorem foldF_1 (lw : Nat → Nat → Nat) (my : Nat → Nat → Bool) (n N : Nat) (hX : Clu.XOK Try.prog (Clu.addB (Clu.addB Clu.noX 35 (Clu.decH (lowH lw))) 17 (Clu.decH (mayH my))))  (n1 : n < 9000000000000000000 := by omega) (c1 : (my n N) = false) : Clu.Fact Try.prog 18 [] [.s n N] (Clu.AV.s 0 0) :=
  Clu.factL Clu.plain (Clu.tell_ok (hX)) Clu.mixed (Clu.noL_ok) ((((foldF_raw lw my n N)).trans (Clu.needT_eq (Clu.blt_iff.2 n1) _ _)).trans (Clu.forkB_t (congrArg not (c1)) _ _)) rfl (rfl)
/-! May -/
/-- where the labels of a text end; none, where one is too long; so many rounds at most -/
def mayGo (l : List Nat) : Nat → Nat → Option Nat
  | 0, at_ => some at_
  | f + 1, at_ => if at_ < l.length ∧ l.getD at_ 0 ≠ 0 then (if 63 < l.getD at_ 0 then none else mayGo l f (at_ + (1 + l.getD at_ 0))) else some at_
theorem mayGo_labs (l : List Nat) : ∀ (f at_ : Nat), l.length < at_ + f → match mayGo l f at_ with
    | none => labs (l.drop at_) = none
    | some e => ((labs (l.drop at_)).isSome = true ↔ e + 1 = l.length)
  | 0, at_, hf => by
    show (labs (l.drop at_)).isSome = true ↔ at_ + 1 = l.length
    rw [List.drop_eq_nil_of_le (by omega), labs_nil]
    constructor
    · intro h; cases h
    · intro h; omega
  | f + 1, at_, hf => by
    unfold mayGo
    by_cases h : at_ < l.length
    · rw [getD_drop h]
      by_cases h0 : l.getD at_ 0 = 0
      · rw [if_neg (fun k => k.2 h0), h0, labs_zero]
        show (if l.drop (at_ + 1) = [] then some [] else none).isSome = true ↔ at_ + 1 = l.length
        by_cases hd : l.drop (at_ + 1) = []
        · rw [if_pos hd]
          rw [List.drop_eq_nil_iff] at hd
          exact ⟨fun _ => by omega, fun _ => rfl⟩
        · rw [if_neg hd]
          rw [List.drop_eq_nil_iff] at hd
          exact ⟨fun k => (by cases k), fun k => by omega⟩
      · rw [if_pos ⟨h, h0⟩, labs_cons h0]
        by_cases h63 : 63 < l.getD at_ 0
        · rw [if_pos h63, if_neg (fun k => by omega)]
        · rw [if_neg h63]
          have ih := mayGo_labs l f (at_ + (1 + l.getD at_ 0)) (by omega)
          by_cases hc : l.getD at_ 0 ≤ (l.drop (at_ + 1)).length
          · rw [if_pos ⟨by omega, hc⟩]
            have e : l.drop (at_ + (1 + l.getD at_ 0)) = (l.drop (at_ + 1)).drop (l.getD at_ 0) := by rw [List.drop_drop]; congr 1; omega
            rw [e] at ih
            cases hm : mayGo l f (at_ + (1 + l.getD at_ 0)) with
            | none => rw [hm] at ih; simp only at ih; rw [ih]; rfl
            | some e => rw [hm] at ih; simp only at ih; rw [Option.isSome_map]; exact ih
          · rw [if_neg (fun k => hc k.2)]
            rw [List.length_drop] at hc
            have e : l.drop (at_ + (1 + l.getD at_ 0)) = [] := List.drop_eq_nil_of_le (by omega)
            rw [e, labs_nil] at ih
            cases hm : mayGo l f (at_ + (1 + l.getD at_ 0)) with
            | none => rfl
            | some e => rw [hm] at ih; exact ih
    · rw [if_neg (fun k => h k.1), List.drop_eq_nil_of_le (by omega), labs_nil]
      show (none : Option (List (List Nat))).isSome = true ↔ at_ + 1 = l.length
      constructor
      · intro h; cases h
      · intro h; omega
theorem may_A {l : List Nat} (hB : Clu.B8 l) (hn : l.length ≤ 255) {e : Nat} : ∀ (f at_ : Nat), l.length < at_ + f → mayGo l f at_ = some e → Clu.LoopQ Try.prog (Clu.loopNo Try.f17 0) (51 + f) 33 1000 ([] ++ Clu.layB []) 1000 2 [0, 3] [.s l.length (Clu.pk l), .i .i64 (.ofNat at_)] [2, 6, 10, 11, 15, 16, 20, 32] [0, 3] [.s l.length (Clu.pk l), .i .i64 (.ofNat e)] ([] ++ Clu.layB []) 1000
  | 0, at_, hf, hg => by
    cases hg
    exact Clu.LoopQ.out (n := 50) (by simp [Clu.exOf]) (by omega) fun os ho => mayR_0 _ _ _ os ho hn (by omega)
  | f + 1, at_, hf, hg => by
    have hb := Clu.byteN_pk hB at_
    unfold mayGo at hg
    split at hg
    · rename_i hc
      split at hg
      · cases hg
      · rename_i h63
        refine Clu.LoopQ.more (show 50 ≤ 51 + f by omega) (fun os ho => mayR_2 _ _ at_ os ho hn hc.1 (c2 := by rw [hb]; exact hc.2) (c3 := by rw [hb]; omega)) ?_
        rw [hb]
        exact may_A hB hn f _ (by omega) hg
    · rename_i hc
      obtain rfl : at_ = e := by simpa using hg
      by_cases h1 : at_ < l.length
      · have h2 : l.getD at_ 0 = 0 := by
          by_cases h0 : l.getD at_ 0 = 0
          · exact h0
          · exact absurd ⟨h1, h0⟩ hc
        exact Clu.LoopQ.out (n := 50) (by simp [Clu.exOf]) (by omega) fun os ho => mayR_1 _ _ at_ os ho hn h1 (c2 := by rw [hb]; exact h2)
      · exact Clu.LoopQ.out (n := 50) (by simp [Clu.exOf]) (by omega) fun os ho => mayR_0 _ _ _ os ho hn (by omega)
theorem may_B {l : List Nat} (hB : Clu.B8 l) (hn : l.length ≤ 255) : ∀ (f at_ : Nat), l.length < at_ + f → mayGo l f at_ = none → Clu.LoopQ Try.prog (Clu.loopNo Try.f17 0) (51 + f) 33 1000 ([] ++ Clu.layB []) 1000 1 [0, 3] [.s l.length (Clu.pk l), .i .i64 (.ofNat at_)] [2, 6, 10, 11, 15, 16, 20, 32] [2] [.b false] ([] ++ Clu.layB []) 1000
  | 0, at_, hf, hg => by cases hg
  | f + 1, at_, hf, hg => by
    have hb := Clu.byteN_pk hB at_
    unfold mayGo at hg
    split at hg
    · rename_i hc
      split at hg
      · rename_i h63
        exact Clu.LoopQ.out (n := 50) (by simp [Clu.exOf]) (by omega) fun os ho => mayR_3 _ _ at_ os ho hn hc.1 (c2 := by rw [hb]; exact hc.2) (c3 := by rw [hb]; exact h63)
      · rename_i h63
        refine Clu.LoopQ.more (show 50 ≤ 51 + f by omega) (fun os ho => mayR_2 _ _ at_ os ho hn hc.1 (c2 := by rw [hb]; exact hc.2) (c3 := by rw [hb]; omega)) ?_
        rw [hb]
        exact may_B hB hn f _ (by omega) hg
    · cases hg
theorem may_fact {l : List Nat} (hB : Clu.B8 l) (hl : l.length < 9000000000000000000) : Clu.Fact Try.prog 17 [] [.s l.length (Clu.pk l)] (.b (mayB l)) := by
  unfold mayB
  by_cases hn : l.length ≤ 255
  · rw [decide_eq_true hn, Bool.true_and]
    have hg := mayGo_labs l 944 0 (by omega)
    rw [List.drop_zero] at hg
    cases hm : mayGo l 944 0 with
    | none =>
      rw [hm] at hg
      simp only at hg
      rw [hg]
      exact mayF_1 _ _ 0 true hn rfl (may_B hB hn 944 0 (by omega) hm)
    | some e =>
      rw [hm] at hg
      simp only at hg
      have := mayF_0 _ _ e false hn rfl (may_A hB hn 944 0 (by omega) hm)
      rw [Clu.iEq_dec] at this
      have e2 : (labs l).isSome = decide (Int.ofNat e = Int.ofNat l.length - Int.ofNat 1) := by
        rw [Bool.eq_iff_iff, hg, decide_eq_true_iff]
        simp only [Int.ofNat_eq_natCast]
        omega
      rw [e2]
      exact this
  · rw [decide_eq_false hn, Bool.false_and]
    exact mayF_2 _ _ 0 true (by omega)
/-! what stands for May and lower -/
noncomputable def lwF (n N : Nat) : Nat := Clu.pk (low (Clu.lst n N))
noncomputable def myF (n N : Nat) : Bool := mayB (Clu.lst n N)
theorem lowH_ok : Clu.HandOK Try.prog 35 (Clu.decH (lowH lwF)) := Clu.decH_ok fun args v h => by
  unfold lowH at h
  split at h
  · rename_i n N
    obtain ⟨h1, h2⟩ := h
    have h2 : Clu.AV.s n (lwF n N) = v := h2
    subst h2
    refine Clu.Fact.s1 ?_
    have := lower_fact (Clu.lst_b8 n N) (by rw [Clu.lst_length]; exact Clu.blt_iff.1 h1)
    rw [low_length, Clu.lst_length] at this
    rw [Clu.lst_length]
    exact this
  · exact h.elim
theorem mayH_ok : Clu.HandOK Try.prog 17 (Clu.decH (mayH myF)) := Clu.decH_ok fun args v h => by
  unfold mayH at h
  split at h
  · rename_i n N
    obtain ⟨h1, h2⟩ := h
    have h2 : Clu.AV.b (myF n N) = v := h2
    subst h2
    exact Clu.Fact.s1 (may_fact (Clu.lst_b8 n N) (by rw [Clu.lst_length]; exact Clu.blt_iff.1 h1))
  · exact h.elim
theorem nmX_ok : Clu.XOK Try.prog (Clu.addB (Clu.addB Clu.noX 35 (Clu.decH (lowH lwF))) 17 (Clu.decH (mayH myF))) := Clu.addB_ok (Clu.addB_ok Clu.noX_ok lowH_ok) mayH_ok
theorem lwF_pk {l : List Nat} (h : Clu.B8 l) : lwF l.length (Clu.pk l) = Clu.pk (low l) := by unfold lwF; rw [Clu.lst_pk h]
theorem myF_pk {l : List Nat} (h : Clu.B8 l) : myF l.length (Clu.pk l) = mayB l := by unfold myF; rw [Clu.lst_pk h]
/-! Same, Fold -/
def sameB (l m : List Nat) : Bool := mayB l && (mayB m && decide (low l = low m))
def foldL (l : List Nat) : List Nat := if mayB l = true then low l else []
theorem eqNs_low {l m : List Nat} (h : Clu.B8 l) (k : Clu.B8 m) : Clu.eqNs l.length (Clu.pk (low l)) m.length (Clu.pk (low m)) = decide (low l = low m) := by
  have := Clu.eqNs_iff (low_b8 h) (low_b8 k)
  rw [low_length, low_length] at this
  exact this
theorem same_fact {l m : List Nat} (h : Clu.B8 l) (k : Clu.B8 m) (hl : l.length < 9000000000000000000) (hm : m.length < 9000000000000000000) : Clu.Fact Try.prog 22 [] [.s l.length (Clu.pk l), .s m.length (Clu.pk m)] (.b (sameB l m)) := by
  unfold sameB
  have el := myF_pk h
  have em := myF_pk k
  cases h1 : mayB l with
  | false => exact sameF_0 lwF myF l.length (Clu.pk l) m.length (Clu.pk m) nmX_ok (by omega) (by rw [el]; exact h1)
  | true =>
    cases h2 : mayB m with
    | false => exact sameF_1 lwF myF l.length (Clu.pk l) m.length (Clu.pk m) nmX_ok (by omega) (by rw [el]; exact h1) (by omega) (by rw [em]; exact h2)
    | true =>
      have := sameF_2 lwF myF l.length (Clu.pk l) m.length (Clu.pk m) nmX_ok (by omega) (by rw [el]; exact h1) (by omega) (by rw [em]; exact h2) (by omega) (by omega)
      rw [lwF_pk h, lwF_pk k, eqNs_low h k] at this
      exact this
theorem fold_fact {l : List Nat} (h : Clu.B8 l) (hl : l.length < 9000000000000000000) : Clu.Fact Try.prog 18 [] [.s l.length (Clu.pk l)] (.s (foldL l).length (Clu.pk (foldL l))) := by
  unfold foldL
  have el := myF_pk h
  cases h1 : mayB l with
  | false => exact foldF_1 lwF myF l.length (Clu.pk l) nmX_ok (by omega) (by rw [el]; exact h1)
  | true =>
    have := foldF_0 lwF myF l.length (Clu.pk l) nmX_ok (by omega) (by rw [el]; exact h1) (by omega)
    rw [lwF_pk h] at this
    rw [if_pos rfl, low_length]
    exact this
/-! Within -/
def withinB (l m : List Nat) : Bool := match labs l, labs m with
  | some L, some M => decide (l.length ≤ 255) && (decide (m.length ≤ 255) && withinL L M)
  | _, _ => false
theorem cut_len (L : List (List Nat)) (k : Nat) : (wire (cutTo L k)).length ≤ (wire L).length := (suffix_wire (cutTo_suffix L k)).1
theorem with_A {L : List (List Nat)} (hB : Clu.B8 (wire L)) (hn : (wire L).length ≤ 255) {m M : Nat} (hm : 1 ≤ m) (hm2 : m ≤ 255) : ∀ (K p : List (List Nat)), L = p ++ K → LabOk K → Clu.LoopQ Try.prog (Clu.loopNo Try.f24 0) (51 + K.length) 35 1000 ([] ++ Clu.layB []) 1000 2 [0, 1, 5] [.s (wire L).length (Clu.pk (wire L)), .s m M, .i .i64 (.ofNat ((wire L).length - (wire K).length))] [4, 7, 8, 9, 11, 12, 13, 20, 34] [0, 1, 5] [.s (wire L).length (Clu.pk (wire L)), .s m M, .i .i64 (.ofNat ((wire L).length - (wire (cutTo K m)).length))] ([] ++ Clu.layB []) 1000
  | [], p, he, hK => by
    have := wire_pos L
    refine Clu.LoopQ.out (n := 50) (by simp [Clu.exOf]) (by omega) fun os ho => withR_0 _ _ m M _ os ho hn (c1 := ?_)
    show ((wire L).length : Int) - (((wire L).length - 1 : Nat) : Int) ≤ (m : Int)
    omega
  | x :: K, p, he, hK => by
    have hx := hK.head
    have hlen : (wire L).length = (wire p).length - 1 + (wire (x :: K)).length := by rw [he, wire_app_length]
    have hpos := wire_pos p
    have hw : (wire (x :: K)).length = x.length + 1 + (wire K).length := by simp [wire]; omega
    unfold cutTo
    by_cases h : m < (wire (x :: K)).length
    · rw [if_pos h]
      have hb : Clu.byteN (Clu.pk (wire L)) ((wire L).length - (wire (x :: K)).length) = x.length := by
        rw [Clu.byteN_pk hB]
        obtain ⟨q, h1, h2⟩ := wire_app p (x :: K)
        rw [← he] at h1
        have e : (wire L).length - (wire (x :: K)).length = q.length := by rw [hlen]; omega
        rw [e, h1, List.getD_eq_getElem?_getD, List.getElem?_append_right (Nat.le_refl _), Nat.sub_self]
        rfl
      refine Clu.LoopQ.more (show 50 ≤ 51 + K.length by omega) (fun os ho => withR_1 _ _ m M _ os ho hn (c1 := by omega) (n2 := by omega) (n3 := by rw [hb]; omega) (n4 := by rw [hb]; omega) (n5 := by rw [hb]; omega)) ?_
      rw [hb]
      have := with_A hB hn (M := M) hm hm2 K (p ++ [x]) (by rw [he, List.append_assoc]; rfl) hK.tail
      have e : (wire L).length - (wire (x :: K)).length + (1 + x.length) = (wire L).length - (wire K).length := by omega
      rw [e]
      exact this
    · rw [if_neg h]
      exact Clu.LoopQ.out (n := 50) (by simp [Clu.exOf]) (by omega) fun os ho => withR_0 _ _ m M _ os ho hn (c1 := by omega)
theorem within_fact {l m : List Nat} (h : Clu.B8 l) (k : Clu.B8 m) (hl : l.length < 9000000000000000000) (hm : m.length < 9000000000000000000) : Clu.Fact Try.prog 24 [] [.s l.length (Clu.pk l), .s m.length (Clu.pk m)] (.b (withinB l m)) := by
  have el := myF_pk h
  have em := myF_pk k
  cases h1 : mayB l with
  | false =>
    have e : withinB l m = false := by
      unfold withinB
      split
      · rename_i L M e1 e2
        unfold mayB at h1
        rw [e1] at h1
        simp only [Option.isSome_some, Bool.and_true] at h1
        rw [h1]; rfl
      · rfl
    rw [e]
    exact withF_2 lwF myF l.length (Clu.pk l) m.length (Clu.pk m) 0 nmX_ok (by omega) (by rw [el]; exact h1)
  | true =>
    cases h2 : mayB m with
    | false =>
      have e : withinB l m = false := by
        unfold withinB
        split
        · rename_i L M e1 e2
          unfold mayB at h2
          rw [e2] at h2
          simp only [Option.isSome_some, Bool.and_true] at h2
          rw [h2, Bool.false_and, Bool.and_false]
        · rfl
      rw [e]
      exact withF_1 lwF myF l.length (Clu.pk l) m.length (Clu.pk m) 0 nmX_ok (by omega) (by rw [el]; exact h1) (by omega) (by rw [em]; exact h2)
    | true =>
      obtain ⟨L, rfl, oL, hL⟩ := mayB_iff.1 h1
      obtain ⟨M, rfl, oM, hM⟩ := mayB_iff.1 h2
      have e : withinB (wire L) (wire M) = withinL L M := by
        unfold withinB
        rw [labs_wire oL, labs_wire oM]
        simp only [decide_eq_true hL, decide_eq_true hM, Bool.true_and]
      rw [e]
      have hc := cut_len L (wire M).length
      have hp := with_A h hL (M := Clu.pk (wire M)) (wire_pos M) hM L [] rfl oL
      rw [Nat.sub_self] at hp
      have hLl : L.length ≤ (wire L).length := by
        clear hp hc e el em h1 h2 hl h hL
        induction L with
        | nil => exact Nat.zero_le _
        | cons x L ih =>
          have := ih oL.tail
          simp only [wire, List.length_cons, List.length_append]; omega
      have := withF_0 lwF myF (wire L).length (Clu.pk (wire L)) (wire M).length (Clu.pk (wire M)) ((wire L).length - (wire (cutTo L (wire M).length)).length) nmX_ok (by omega) (by rw [el]; exact h1) (by omega) (by rw [em]; exact h2) (hp.upto (by omega)) (by omega) (by omega) (by omega)
      have hs := cutTo_suffix L (wire M).length
      have hcw : (wire L).drop ((wire L).length - (wire (cutTo L (wire M).length)).length) = wire (cutTo L (wire M).length) := by
        obtain ⟨p, hp⟩ := hs
        obtain ⟨q, q1, q2⟩ := wire_app p (cutTo L (wire M).length)
        rw [hp] at q1
        have e1 : (wire L).length - (wire (cutTo L (wire M).length)).length = q.length := by rw [q1, List.length_append]; omega
        rw [e1]
        conv => lhs; rw [q1]
        exact List.drop_left
      have e3 : (wire L).length - ((wire L).length - (wire (cutTo L (wire M).length)).length) = (wire (cutTo L (wire M).length)).length := by omega
      have hcb : Clu.B8 (wire (cutTo L (wire M).length)) := by rw [← hcw]; exact h.drop _
      rw [Clu.pk_part, hcw, e3, List.take_length, lwF_pk hcb, lwF_pk k, eqNs_low hcb k] at this
      have e4 : decide (low (wire (cutTo L (wire M).length)) = low (wire M)) = withinL L M := by
        unfold withinL
        rw [decide_eq_decide, low_wire_inj (fun x hx => oL x (hs.subset hx)) oM]
        exact within_cut
      rw [e4] at this
      exact this

end Go.Proofs.Ytmokdhmicdmgfaa

namespace Go.Proofs.Ytmokdhmicdmgfaa
open Go.RowKit
set_option linter.unusedVariables false
set_option linter.unusedSimpArgs false
set_option maxRecDepth 100000

noncomputable def plH (my : Nat → Nat → Bool) (pl : Nat → Nat → List Clu.AV) : List Clu.AV → Clu.Dec Clu.AV := fun args => match args with
  | [.s n N] => .need (my n N) (.leaf (.ag (pl n N)))
  | _ => .fail
noncomputable def sgH (sg : Int → Int) : List Clu.AV → Clu.Dec Clu.AV := fun args => match args with
  | [.i .i64 z] => .leaf (.i .i64 (sg z))
  | _ => .fail
noncomputable def feF (fl fb : List Clu.AV → Nat → Nat → Nat → Nat) : List Clu.AV → List Clu.AV → Option (Clu.AV × List Clu.AV) := fun cs rest => match rest with
  | [.s n N, .i .i64 (.ofNat i)] => some (.s (fl cs n N i) (fb cs n N i), cs)
  | _ => none
noncomputable def feB (fo : List Clu.AV → Nat → Nat → Nat → Bool) : List Clu.AV → List Clu.AV → List Bool := fun cs rest => match rest with
  | [.s n N, .i .i64 (.ofNat i)] => [fo cs n N i]
  | _ => [false]

set_option maxRecDepth 10000000 in
theorem plR_raw (n N at_ : Nat) (rs cs : List Clu.AV) (os : Nat → Option Clu.AV) : Clu.evL (Clu.noL) Try.prog (Clu.noX) 50 27 1000 (Clu.loopNo Try.f42 0) (Clu.tellF [3000016] (Clu.mkFr 27 (Clu.std [0, 2, 3, 4] [.s n N, .p 1000 0, .p 1001 0, .i .i64 (.ofNat at_)] [8] os))) (Clu.mkH (Clu.mkH .e (Clu.layB [])) [(1000, .c rs 0 0 (some 57)), (1001, .c cs 0 0 (some 57))]) 1002 (Clu.finM 27 1002 [8] 0 [(0, [0, 2, 3, 4], [(1000, 0, 0, (some 57)), (1001, 0, 0, (some 57))], none), (2, [2, 3], [(1000, 0, 0, (some 57)), (1001, 0, 0, (some 57))], none)]) = Clu.needT ((Nat.blt at_ n)) (.err 22 6) (Clu.forkB ((Bool.not (Clu.iEq (Int.ofNat (Clu.byteN N at_)) (Int.ofNat 0)))) ((Clu.Out.ok (Clu.AV.tu [(Clu.AV.i IntKind.i64 (Int.ofNat 1)), (Clu.AV.p 1000 0), (Clu.AV.p 1001 0), (Clu.AV.ag rs), (Clu.AV.ag cs)]))) (Clu.needT ((Clu.isI IntKind.i64 (Clu.getL cs 127))) (.err 8 3) (Clu.needI ((Clu.iZ (Clu.getL cs 127))) (fun _ => .err 22 1) (fun n597 => Clu.needT ((Nat.blt n597 127)) (.err 22 0) (Clu.needT ((Nat.ble ((0 + (n597 * 1)) + 1) (List.length cs))) (.err 7 0) (Clu.needT ((Clu.isI IntKind.i64 (Clu.getL (Clu.splice cs (0 + (n597 * 1)) [(Clu.AV.i IntKind.u8 (Int.ofNat (Clu.modN (Int.ofNat at_) 256)))]) 127))) (.err 8 3) (Clu.needT ((Clu.inR IntKind.i64 ((Clu.iZ (Clu.getL (Clu.splice cs (0 + (n597 * 1)) [(Clu.AV.i IntKind.u8 (Int.ofNat (Clu.modN (Int.ofNat at_) 256)))]) 127)) + (Int.ofNat 1)))) (.err 10 20) (Clu.needT ((Nat.ble (127 + 1) (List.length (Clu.splice cs (0 + (n597 * 1)) [(Clu.AV.i IntKind.u8 (Int.ofNat (Clu.modN (Int.ofNat at_) 256)))])))) (.err 7 0) (Clu.needT ((Nat.blt at_ n)) (.err 22 6) (Clu.needT ((Clu.inR IntKind.i64 (Int.ofNat (Clu.byteN N at_)))) (.err 10 20) (Clu.needT ((Clu.inR IntKind.i64 (Int.ofNat (1 + (Clu.byteN N at_))))) (.err 10 20) (Clu.needT ((Clu.inR IntKind.i64 (Int.ofNat (at_ + (1 + (Clu.byteN N at_)))))) (.err 10 20) ((Clu.Out.ok (Clu.AV.tu [(Clu.AV.i IntKind.i64 (Int.ofNat 0)), (Clu.AV.s n N), (Clu.AV.p 1000 0), (Clu.AV.p 1001 0), (Clu.AV.i IntKind.i64 (Int.ofNat (at_ + (1 + (Clu.byteN N at_))))), (Clu.AV.ag rs), (Clu.AV.ag (Clu.splice (Clu.splice cs (0 + (n597 * 1)) [(Clu.AV.i IntKind.u8 (Int.ofNat (Clu.modN (Int.ofNat at_) 256)))]) 127 [(Clu.AV.i IntKind.i64 ((Clu.iZ (Clu.getL (Clu.splice cs (0 + (n597 * 1)) [(Clu.AV.i IntKind.u8 (Int.ofNat (Clu.modN (Int.ofNat at_) 256)))]) 127)) + (Int.ofNat 1)))]))]))))))))))))))) := by kernel_rfl
set_option linter.unusedVariables false in
theorem plR_0 (n N at_ : Nat) (rs cs : List Clu.AV) (os : Nat → Option Clu.AV) (hos : ∀ t, Clu.flatB (os t) = true) (hr : Clu.AV.unds 1002 rs = true) (hu : Clu.AV.unds 1002 cs = true) (n1 : at_ < n := by omega) (c1 : (Clu.byteN N at_) = 0) : ∃ os' : Nat → Option Clu.AV, (∀ t, Clu.flatB (os' t) = true) ∧ Clu.RunE Try.prog 50 (Clu.loopNo Try.f42 0) 27 1000 (Clu.mkFr 27 (Clu.std [0, 2, 3, 4] [.s n N, .p 1000 0, .p 1001 0, .i .i64 (.ofNat at_)] [8] os)) (Clu.mkH .e ([(1000, .c rs 0 0 (some 57)), (1001, .c cs 0 0 (some 57))] ++ (Clu.layB []))) 1002 (Clu.exOf 2) (Clu.mkFr 27 (Clu.std [2, 3] [(Clu.AV.p 1000 0), (Clu.AV.p 1001 0)] [8] os')) (Clu.mkH .e ([(1000, .c rs 0 0 (some 57)), (1001, .c cs 0 0 (some 57))] ++ (Clu.layB []))) 1002 :=
  Clu.segM (vs := [(Clu.AV.p 1000 0), (Clu.AV.p 1001 0)]) (cs := [rs, cs]) 1 2 [2, 3] [(1000, 0, 0, (some 57)), (1001, 0, 0, (some 57))] (Clu.evL_ok Clu.plain (Clu.noX_ok) (Clu.drK_ok Clu.mixed) (Clu.noL_ok) 50) (Clu.layB_bs rfl (by decide) (by decide)) hos ((((plR_raw n N at_ rs cs os)).trans (Clu.needT_eq (Clu.blt_iff.2 n1) _ _)).trans (Clu.forkB_f (congrArg not (Clu.iEq_t (congrArg Int.ofNat c1))) _ _)) rfl rfl rfl (by decide) rfl (by simp [Clu.Blk.und, Clu.AV.und, Clu.AV.unds, hr, hu]) rfl (Clu.newH_ro rfl) (by simp [Clu.AV.und, Clu.AV.unds, Clu.AV.cells, Clu.unds_splice, hr, hu])
set_option linter.unusedVariables false in
theorem plR_1 (n N at_ : Nat) (rs cs : List Clu.AV) (os : Nat → Option Clu.AV) (hos : ∀ t, Clu.flatB (os t) = true) (hr : Clu.AV.unds 1002 rs = true) (hu : Clu.AV.unds 1002 cs = true) (n1 : at_ < n := by omega) (c1 : (Clu.byteN N at_) ≠ 0) (n2 : (Clu.isI IntKind.i64 (Clu.getL cs 127)) = true) (n597 : Nat) (e_n597 : (Clu.iZ (Clu.getL cs 127)) = Int.ofNat n597) (n3 : n597 < 127 := by omega) (n4 : ((0 + (n597 * 1)) + 1) ≤ (List.length cs) := by first | omega | (simp; omega)) (n5 : (Clu.isI IntKind.i64 (Clu.getL (Clu.splice cs (0 + (n597 * 1)) [(Clu.AV.i IntKind.u8 (Int.ofNat (Clu.modN (Int.ofNat at_) 256)))]) 127)) = true) (n6 : -9223372036854775808 ≤ ((Clu.iZ (Clu.getL (Clu.splice cs (0 + (n597 * 1)) [(Clu.AV.i IntKind.u8 (Int.ofNat (Clu.modN (Int.ofNat at_) 256)))]) 127)) + ((1 : Nat) : Int)) ∧ ((Clu.iZ (Clu.getL (Clu.splice cs (0 + (n597 * 1)) [(Clu.AV.i IntKind.u8 (Int.ofNat (Clu.modN (Int.ofNat at_) 256)))]) 127)) + ((1 : Nat) : Int)) < 9223372036854775808 := by omega) (n7 : (127 + 1) ≤ (List.length (Clu.splice cs (0 + (n597 * 1)) [(Clu.AV.i IntKind.u8 (Int.ofNat (Clu.modN (Int.ofNat at_) 256)))])) := by first | omega | (simp; omega)) (n8 : at_ < n := by omega) (n9 : (Clu.byteN N at_) < 9223372036854775808 := by omega) (n10 : (1 + (Clu.byteN N at_)) < 9223372036854775808 := by omega) (n11 : (at_ + (1 + (Clu.byteN N at_))) < 9223372036854775808 := by omega) : ∃ os' : Nat → Option Clu.AV, (∀ t, Clu.flatB (os' t) = true) ∧ Clu.RunE Try.prog 50 (Clu.loopNo Try.f42 0) 27 1000 (Clu.mkFr 27 (Clu.std [0, 2, 3, 4] [.s n N, .p 1000 0, .p 1001 0, .i .i64 (.ofNat at_)] [8] os)) (Clu.mkH .e ([(1000, .c rs 0 0 (some 57)), (1001, .c cs 0 0 (some 57))] ++ (Clu.layB []))) 1002 (Clu.exOf 0) (Clu.mkFr 27 (Clu.std [0, 2, 3, 4] [(Clu.AV.s n N), (Clu.AV.p 1000 0), (Clu.AV.p 1001 0), (Clu.AV.i IntKind.i64 (Int.ofNat (at_ + (1 + (Clu.byteN N at_)))))] [8] os')) (Clu.mkH .e ([(1000, .c rs 0 0 (some 57)), (1001, .c (Clu.splice (Clu.splice cs (0 + (n597 * 1)) [(Clu.AV.i IntKind.u8 (Int.ofNat (Clu.modN (Int.ofNat at_) 256)))]) 127 [(Clu.AV.i IntKind.i64 ((Clu.iZ (Clu.getL (Clu.splice cs (0 + (n597 * 1)) [(Clu.AV.i IntKind.u8 (Int.ofNat (Clu.modN (Int.ofNat at_) 256)))]) 127)) + (Int.ofNat 1)))]) 0 0 (some 57))] ++ (Clu.layB []))) 1002 :=
  Clu.segM (vs := [(Clu.AV.s n N), (Clu.AV.p 1000 0), (Clu.AV.p 1001 0), (Clu.AV.i IntKind.i64 (Int.ofNat (at_ + (1 + (Clu.byteN N at_)))))]) (cs := [rs, (Clu.splice (Clu.splice cs (0 + (n597 * 1)) [(Clu.AV.i IntKind.u8 (Int.ofNat (Clu.modN (Int.ofNat at_) 256)))]) 127 [(Clu.AV.i IntKind.i64 ((Clu.iZ (Clu.getL (Clu.splice cs (0 + (n597 * 1)) [(Clu.AV.i IntKind.u8 (Int.ofNat (Clu.modN (Int.ofNat at_) 256)))]) 127)) + (Int.ofNat 1)))])]) 0 0 [0, 2, 3, 4] [(1000, 0, 0, (some 57)), (1001, 0, 0, (some 57))] (Clu.evL_ok Clu.plain (Clu.noX_ok) (Clu.drK_ok Clu.mixed) (Clu.noL_ok) 50) (Clu.layB_bs rfl (by decide) (by decide)) hos (((((((((((((((plR_raw n N at_ rs cs os)).trans (Clu.needT_eq (Clu.blt_iff.2 n1) _ _)).trans (Clu.forkB_t (congrArg not (Clu.iEq_f (fun hh => c1 (Int.ofNat.inj hh)))) _ _)).trans (Clu.needT_eq (n2) _ _)).trans (Clu.needI_eq e_n597 _ _)).trans (Clu.needT_eq (Clu.blt_iff.2 n3) _ _)).trans (Clu.needT_eq (Clu.ble_iff.2 n4) _ _)).trans (Clu.needT_eq (n5) _ _)).trans (Clu.needT_eq (Clu.inR_int (k := .i64) (half := 9223372036854775808) rfl n6) _ _)).trans (Clu.needT_eq (Clu.ble_iff.2 n7) _ _)).trans (Clu.needT_eq (Clu.blt_iff.2 n8) _ _)).trans (Clu.needT_eq (Clu.inR_nat (k := .i64) n9) _ _)).trans (Clu.needT_eq (Clu.inR_nat (k := .i64) n10) _ _)).trans (Clu.needT_eq (Clu.inR_nat (k := .i64) n11) _ _)) rfl rfl rfl (by decide) rfl (by simp [Clu.Blk.und, Clu.AV.und, Clu.AV.unds, hr, hu]) rfl (Clu.newH_ro rfl) (by simp [Clu.AV.und, Clu.AV.unds, Clu.AV.cells, Clu.unds_splice, hr, hu])
set_option maxRecDepth 10000000 in
theorem plF_raw (n N : Nat) (cs : List Clu.AV) : (Clu.layK [] .e fun h => Clu.runL (Clu.addL (Clu.noL) (Clu.loopNo Try.f42 0) 3 (Clu.loopM [3000016] Try.prog (Clu.loopNo Try.f42 0) [0, 2, 3, 4] [8] [] [1000, 1001] (fun _ bl _ => match bl with | [(1000, .c rs 0 0 (some 57)), _] => .leaf (2, [2, 3], [.p 1000 0, .p 1001 0], [(1000, .c rs 0 0 (some 57)), (1001, .c cs 0 0 (some 57))], 1002) | _ => .fail))) Try.prog (Clu.tell (Clu.noX) 42 3000016) (1000) 1000 42 [.s n N] h 1000) = Clu.needP ((Clu.loopNo Try.f42 0) = (Clu.loopNo Try.f42 0)) (fun _ => .err 91 0) (fun h600 => Clu.needP (Clu.LoopQ (Try.prog) ((Clu.loopNo Try.f42 0)) (995) (27) (1000) ([(1000, (Clu.Blk.c ((List.replicate 127 (Clu.AV.i IntKind.u8 (Int.ofNat 0))) ++ [(Clu.AV.i IntKind.i64 (Int.ofNat 0))]) 0 0 (Option.some 57))), (1001, (Clu.Blk.c ((List.replicate 127 (Clu.AV.i IntKind.u8 (Int.ofNat 0))) ++ [(Clu.AV.i IntKind.i64 (Int.ofNat 0))]) 0 0 (Option.some 57)))]) (1002) (2) ([0, 2, 3, 4]) ([(Clu.AV.s n N), (Clu.AV.p 1000 0), (Clu.AV.p 1001 0), (Clu.AV.i IntKind.i64 (Int.ofNat 0))]) ([8]) ([2, 3]) ([(Clu.AV.p 1000 0), (Clu.AV.p 1001 0)]) ([(1000, (Clu.Blk.c ((List.replicate 127 (Clu.AV.i IntKind.u8 (Int.ofNat 0))) ++ [(Clu.AV.i IntKind.i64 (Int.ofNat 0))]) 0 0 (Option.some 57))), (1001, (Clu.Blk.c cs 0 0 (Option.some 57)))]) (1002)) (fun _ => .err 93 1) (fun h599 => Clu.needT ((Nat.ble 128 (List.length (List.drop 0 cs)))) (.err 1 0) (Clu.needT ((Nat.beq ((List.length (List.take 128 (List.drop 0 cs))) + 0) 128)) (.err 40 1) (Clu.needT ((Clu.allOne (List.take 128 (List.drop 0 cs)))) (.err 13 1) (Clu.needT ((Nat.ble (0 + (List.length (List.take 128 (List.drop 0 cs)))) 128)) (.err 7 0) (Clu.needT ((Nat.ble 128 (List.length (List.drop 0 (Clu.splice ((List.replicate 127 (Clu.AV.i IntKind.u8 (Int.ofNat 0))) ++ [(Clu.AV.i IntKind.i64 (Int.ofNat 0))]) 0 (List.take 128 (List.drop 0 cs))))))) (.err 1 0) ((Clu.Out.ok (Clu.AV.ag (List.take 128 (List.drop 0 (Clu.splice ((List.replicate 127 (Clu.AV.i IntKind.u8 (Int.ofNat 0))) ++ [(Clu.AV.i IntKind.i64 (Int.ofNat 0))]) 0 (List.take 128 (List.drop 0 cs)))))))))))))) := by kernel_rfl
set_option linter.unusedVariables false in
theorem plF_0 (n N : Nat) (cs : List Clu.AV) (hf : Clu.AV.flts cs = true) (p_h599 : Clu.LoopQ (Try.prog) ((Clu.loopNo Try.f42 0)) (995) (27) (1000) ([(1000, (Clu.Blk.c ((List.replicate 127 (Clu.AV.i IntKind.u8 (Int.ofNat 0))) ++ [(Clu.AV.i IntKind.i64 (Int.ofNat 0))]) 0 0 (Option.some 57))), (1001, (Clu.Blk.c ((List.replicate 127 (Clu.AV.i IntKind.u8 (Int.ofNat 0))) ++ [(Clu.AV.i IntKind.i64 (Int.ofNat 0))]) 0 0 (Option.some 57)))]) (1002) (2) ([0, 2, 3, 4]) ([(Clu.AV.s n N), (Clu.AV.p 1000 0), (Clu.AV.p 1001 0), (Clu.AV.i IntKind.i64 (Int.ofNat 0))]) ([8]) ([2, 3]) ([(Clu.AV.p 1000 0), (Clu.AV.p 1001 0)]) ([(1000, (Clu.Blk.c ((List.replicate 127 (Clu.AV.i IntKind.u8 (Int.ofNat 0))) ++ [(Clu.AV.i IntKind.i64 (Int.ofNat 0))]) 0 0 (Option.some 57))), (1001, (Clu.Blk.c cs 0 0 (Option.some 57)))]) (1002)) (n1 : 128 ≤ (List.length (List.drop 0 cs)) := by first | omega | (simp; omega)) (n2 : ((List.length (List.take 128 (List.drop 0 cs))) + 0) = 128 := by first | omega | (simp; omega)) (n3 : (Clu.allOne (List.take 128 (List.drop 0 cs))) = true) (n4 : (0 + (List.length (List.take 128 (List.drop 0 cs)))) ≤ 128 := by first | omega | (simp; omega)) (n5 : 128 ≤ (List.length (List.drop 0 (Clu.splice ((List.replicate 127 (Clu.AV.i IntKind.u8 (Int.ofNat 0))) ++ [(Clu.AV.i IntKind.i64 (Int.ofNat 0))]) 0 (List.take 128 (List.drop 0 cs))))) := by first | omega | (simp; omega)) : Clu.Fact Try.prog 42 [] [.s n N] (Clu.AV.ag (List.take 128 (List.drop 0 (Clu.splice ((List.replicate 127 (Clu.AV.i IntKind.u8 (Int.ofNat 0))) ++ [(Clu.AV.i IntKind.i64 (Int.ofNat 0))]) 0 (List.take 128 (List.drop 0 cs)))))) :=
  Clu.factL Clu.plain (Clu.tell_ok (Clu.noX_ok)) Clu.mixed (Clu.addL_ok (Clu.noL_ok) Clu.loopM_ok) (((((((((plF_raw n N cs)).trans (Clu.needP_eq rfl _ _)).trans (Clu.needP_eq p_h599 _ _)).trans (Clu.needT_eq (Clu.ble_iff.2 n1) _ _)).trans (Clu.needT_eq (Clu.beq_iff.2 n2) _ _)).trans (Clu.needT_eq (n3) _ _)).trans (Clu.needT_eq (Clu.ble_iff.2 n4) _ _)).trans (Clu.needT_eq (Clu.ble_iff.2 n5) _ _)) rfl (show Clu.AV.flts _ = true from Clu.flts_take _ (Clu.flts_drop _ (Clu.flts_splice (by decide) (Clu.flts_take _ (Clu.flts_drop _ hf)))))
set_option maxRecDepth 10000000 in
theorem feC_raw (n N i : Nat) (cs : List Clu.AV) : (Clu.runC (Clu.noL) Try.prog (Clu.tell (Clu.noX) 44 0) (1000) 1000 44 (.p 1000 0 :: [.s n N, .i .i64 (.ofNat i)]) (Clu.mkH (Clu.mkH .e (Clu.layB [])) [(1000, .c (cs) 0 0 (some 57))]) 1001 [(1000, 0, 0, some 57)]) = Clu.needT ((Clu.isI IntKind.i64 (Clu.getL cs 127))) (.err 8 3) (Clu.needT ((Clu.inR IntKind.i64 ((Clu.iZ (Clu.getL cs 127)) - (Int.ofNat i)))) (.err 10 20) (Clu.needI (((Clu.iZ (Clu.getL cs 127)) - (Int.ofNat i))) (fun _ => .err 22 1) (fun n598 => Clu.needT ((Nat.blt n598 127)) (.err 22 0) (Clu.needT ((Clu.isU IntKind.u8 (Clu.getL cs (0 + (n598 * 1))))) (.err 8 4) (Clu.needT ((Clu.inR IntKind.i64 (Int.ofNat (Clu.iN (Clu.getL cs (0 + (n598 * 1))))))) (.err 10 20) (Clu.needT ((Clu.inR IntKind.i64 (Int.ofNat ((Clu.iN (Clu.getL cs (0 + (n598 * 1)))) + 1)))) (.err 10 20) (Clu.needT ((Clu.inR IntKind.i64 (Int.ofNat ((Clu.iN (Clu.getL cs (0 + (n598 * 1)))) + 1)))) (.err 10 20) (Clu.needT ((Nat.blt (Clu.iN (Clu.getL cs (0 + (n598 * 1)))) n)) (.err 22 6) (Clu.needT ((Clu.inR IntKind.i64 (Int.ofNat (Clu.byteN N (Clu.iN (Clu.getL cs (0 + (n598 * 1)))))))) (.err 10 20) (Clu.needT ((Clu.inR IntKind.i64 (Int.ofNat (((Clu.iN (Clu.getL cs (0 + (n598 * 1)))) + 1) + (Clu.byteN N (Clu.iN (Clu.getL cs (0 + (n598 * 1))))))))) (.err 10 20) (Clu.needT ((Nat.ble (((Clu.iN (Clu.getL cs (0 + (n598 * 1)))) + 1) + (Clu.byteN N (Clu.iN (Clu.getL cs (0 + (n598 * 1)))))) n)) (.err 20 0) (Clu.needT ((Nat.ble ((Clu.iN (Clu.getL cs (0 + (n598 * 1)))) + 1) (((Clu.iN (Clu.getL cs (0 + (n598 * 1)))) + 1) + (Clu.byteN N (Clu.iN (Clu.getL cs (0 + (n598 * 1)))))))) (.err 20 0) ((Clu.Out.ok (Clu.AV.tu [(Clu.AV.s ((((Clu.iN (Clu.getL cs (0 + (n598 * 1)))) + 1) + (Clu.byteN N (Clu.iN (Clu.getL cs (0 + (n598 * 1)))))) - ((Clu.iN (Clu.getL cs (0 + (n598 * 1)))) + 1)) (Clu.maskN ((((Clu.iN (Clu.getL cs (0 + (n598 * 1)))) + 1) + (Clu.byteN N (Clu.iN (Clu.getL cs (0 + (n598 * 1)))))) - ((Clu.iN (Clu.getL cs (0 + (n598 * 1)))) + 1)) (Nat.shiftRight N (8 * ((Clu.iN (Clu.getL cs (0 + (n598 * 1)))) + 1))))), (Clu.AV.ag cs)]))))))))))))))) := by kernel_rfl
set_option linter.unusedVariables false in
theorem feC_0 (n N i : Nat) (cs : List Clu.AV) (hf : Clu.AV.flts cs = true) (n1 : (Clu.isI IntKind.i64 (Clu.getL cs 127)) = true) (n2 : -9223372036854775808 ≤ ((Clu.iZ (Clu.getL cs 127)) - ((i : Nat) : Int)) ∧ ((Clu.iZ (Clu.getL cs 127)) - ((i : Nat) : Int)) < 9223372036854775808 := by omega) (n598 : Nat) (e_n598 : ((Clu.iZ (Clu.getL cs 127)) - (Int.ofNat i)) = Int.ofNat n598) (n3 : n598 < 127 := by omega) (n4 : (Clu.isU IntKind.u8 (Clu.getL cs (0 + (n598 * 1)))) = true) (n5 : (Clu.iN (Clu.getL cs (0 + (n598 * 1)))) < 9223372036854775808 := by omega) (n6 : ((Clu.iN (Clu.getL cs (0 + (n598 * 1)))) + 1) < 9223372036854775808 := by omega) (n7 : ((Clu.iN (Clu.getL cs (0 + (n598 * 1)))) + 1) < 9223372036854775808 := by omega) (n8 : (Clu.iN (Clu.getL cs (0 + (n598 * 1)))) < n := by omega) (n9 : (Clu.byteN N (Clu.iN (Clu.getL cs (0 + (n598 * 1))))) < 9223372036854775808 := by omega) (n10 : (((Clu.iN (Clu.getL cs (0 + (n598 * 1)))) + 1) + (Clu.byteN N (Clu.iN (Clu.getL cs (0 + (n598 * 1)))))) < 9223372036854775808 := by omega) (n11 : (((Clu.iN (Clu.getL cs (0 + (n598 * 1)))) + 1) + (Clu.byteN N (Clu.iN (Clu.getL cs (0 + (n598 * 1)))))) ≤ n := by omega) (n12 : ((Clu.iN (Clu.getL cs (0 + (n598 * 1)))) + 1) ≤ (((Clu.iN (Clu.getL cs (0 + (n598 * 1)))) + 1) + (Clu.byteN N (Clu.iN (Clu.getL cs (0 + (n598 * 1)))))) := by omega) : Clu.PtrOK Try.prog 44 57 [] (cs) [.s n N, .i .i64 (.ofNat i)] (Clu.AV.s ((((Clu.iN (Clu.getL cs (0 + (n598 * 1)))) + 1) + (Clu.byteN N (Clu.iN (Clu.getL cs (0 + (n598 * 1)))))) - ((Clu.iN (Clu.getL cs (0 + (n598 * 1)))) + 1)) (Clu.maskN ((((Clu.iN (Clu.getL cs (0 + (n598 * 1)))) + 1) + (Clu.byteN N (Clu.iN (Clu.getL cs (0 + (n598 * 1)))))) - ((Clu.iN (Clu.getL cs (0 + (n598 * 1)))) + 1)) (Nat.shiftRight N (8 * ((Clu.iN (Clu.getL cs (0 + (n598 * 1)))) + 1))))) (cs) :=
  have h := Clu.con_of (v := (Clu.AV.s ((((Clu.iN (Clu.getL cs (0 + (n598 * 1)))) + 1) + (Clu.byteN N (Clu.iN (Clu.getL cs (0 + (n598 * 1)))))) - ((Clu.iN (Clu.getL cs (0 + (n598 * 1)))) + 1)) (Clu.maskN ((((Clu.iN (Clu.getL cs (0 + (n598 * 1)))) + 1) + (Clu.byteN N (Clu.iN (Clu.getL cs (0 + (n598 * 1)))))) - ((Clu.iN (Clu.getL cs (0 + (n598 * 1)))) + 1)) (Nat.shiftRight N (8 * ((Clu.iN (Clu.getL cs (0 + (n598 * 1)))) + 1)))))) (cs := [cs]) (hs := [(1000, 0, 0, some 57)]) (bl0 := [(1000, .c (cs) 0 0 (some 57))]) (gl := Clu.layB []) Clu.plain (Clu.tell_ok (Clu.noX_ok)) (Clu.drK_ok Clu.mixed) (Clu.noL_ok) (((((((((((((((feC_raw n N i cs)).trans (Clu.needT_eq (n1) _ _)).trans (Clu.needT_eq (Clu.inR_int (k := .i64) (half := 9223372036854775808) rfl n2) _ _)).trans (Clu.needI_eq e_n598 _ _)).trans (Clu.needT_eq (Clu.blt_iff.2 n3) _ _)).trans (Clu.needT_eq (n4) _ _)).trans (Clu.needT_eq (Clu.inR_nat (k := .i64) n5) _ _)).trans (Clu.needT_eq (Clu.inR_nat (k := .i64) n6) _ _)).trans (Clu.needT_eq (Clu.inR_nat (k := .i64) n7) _ _)).trans (Clu.needT_eq (Clu.blt_iff.2 n8) _ _)).trans (Clu.needT_eq (Clu.inR_nat (k := .i64) n9) _ _)).trans (Clu.needT_eq (Clu.inR_nat (k := .i64) n10) _ _)).trans (Clu.needT_eq (Clu.ble_iff.2 n11) _ _)).trans (Clu.needT_eq (Clu.ble_iff.2 n12) _ _)) (Clu.layB_bs rfl (by decide) (by decide)) (by decide) rfl (by simp [Clu.Blk.und, Clu.AV.und, Clu.AV.unds, Clu.flts_unds, hf]) rfl (Clu.newH_ro rfl) (by simp [Clu.AV.und, Clu.AV.unds, Clu.unds_splice, Clu.flts_unds, hf])
  ⟨rfl, by first | exact hf | simp [Clu.AV.flts, Clu.AV.flt, hf], by first | exact hf | simp [Clu.AV.flts, Clu.AV.flt, Clu.flts_splice, hf], h.1, h.2⟩
set_option maxRecDepth 10000000 in
theorem cmR_raw (fo : List Clu.AV → Nat → Nat → Nat → Bool) (fl fb : List Clu.AV → Nat → Nat → Nat → Nat) (n N m M i : Nat) (cp cq : List Clu.AV) (os : Nat → Option Clu.AV) : Clu.evL (Clu.noL) Try.prog (Clu.tell (Clu.tell (Clu.addB Clu.noX 44 (Clu.ptrB (feB fo) 57 [] (feF fl fb))) 43 0) 51 0) 50 53 1000 (Clu.loopNo Try.f26 0) (Clu.tellF [3000024, 3000032, 3000058, 3000068, 3000090] (Clu.mkFr 53 (Clu.std [0, 1, 5, 6, 7] [.s n N, .s m M, .p 1000 0, .p 1001 0, .i .i64 (.ofNat i)] [10, 11, 12, 14, 15, 16, 28, 29, 33, 34, 45] os))) (Clu.mkH (Clu.mkH .e (Clu.layB [])) [(1000, .c cp 0 0 (some 57)), (1001, .c cq 0 0 (some 57))]) 1002 (Clu.finM 53 1002 [10, 11, 12, 14, 15, 16, 28, 29, 33, 34, 45] 0 [(0, [0, 1, 5, 6, 7], [(1000, 0, 0, (some 57)), (1001, 0, 0, (some 57))], none), (1, [4], [(1000, 0, 0, (some 57)), (1001, 0, 0, (some 57))], none), (2, [5, 6], [(1000, 0, 0, (some 57)), (1001, 0, 0, (some 57))], none)]) = Clu.needT ((Clu.isI IntKind.i64 (Clu.getL cp 127))) (.err 8 3) (Clu.forkB ((Bool.not (Clu.iLt (Clu.iZ (Clu.getL cp 127)) (Int.ofNat i)))) (Clu.needT ((Clu.flatB (os 10))) (.err 90 1) (Clu.needT ((Clu.flatB (os 11))) (.err 90 1) (Clu.needT ((Clu.flatB (os 12))) (.err 90 1) (Clu.needT ((Clu.flatB (os 14))) (.err 90 1) (Clu.needT ((Clu.flatB (os 15))) (.err 90 1) (Clu.needT ((Clu.flatB (os 16))) (.err 90 1) (Clu.needT ((Clu.flatB (os 45))) (.err 90 1) ((Clu.Out.ok (Clu.AV.tu [(Clu.AV.i IntKind.i64 (Int.ofNat 2)), (Clu.AV.p 1000 0), (Clu.AV.p 1001 0), (Clu.AV.ag cp), (Clu.AV.ag cq)])))))))))) (Clu.needT ((Clu.isI IntKind.i64 (Clu.getL cq 127))) (.err 8 3) (Clu.forkB ((Bool.not (Clu.iLt (Clu.iZ (Clu.getL cq 127)) (Int.ofNat i)))) (Clu.needT ((Clu.flatB (os 10))) (.err 90 1) (Clu.needT ((Clu.flatB (os 11))) (.err 90 1) (Clu.needT ((Clu.flatB (os 12))) (.err 90 1) (Clu.needT ((Clu.flatB (os 14))) (.err 90 1) (Clu.needT ((Clu.flatB (os 15))) (.err 90 1) (Clu.needT ((Clu.flatB (os 16))) (.err 90 1) (Clu.needT ((Clu.flatB (os 45))) (.err 90 1) ((Clu.Out.ok (Clu.AV.tu [(Clu.AV.i IntKind.i64 (Int.ofNat 2)), (Clu.AV.p 1000 0), (Clu.AV.p 1001 0), (Clu.AV.ag cp), (Clu.AV.ag cq)])))))))))) (Clu.needT ((fo cp n N i)) (.err 95 4) (Clu.needT ((fo cq m M i)) (.err 95 4) (Clu.forkB ((Clu.eqNs (fl cp n N i) (fb cp n N i) (fl cq m M i) (fb cq m M i))) (Clu.forkB ((Clu.ltS (fl cp n N i) (fb cp n N i) (fl cq m M i) (fb cq m M i))) (Clu.needT ((Clu.flatB (os 10))) (.err 90 1) (Clu.needT ((Clu.flatB (os 11))) (.err 90 1) (Clu.needT ((Clu.flatB (os 12))) (.err 90 1) (Clu.needT ((Clu.flatB (os 14))) (.err 90 1) (Clu.needT ((Clu.flatB (os 15))) (.err 90 1) (Clu.needT ((Clu.flatB (os 16))) (.err 90 1) ((Clu.Out.ok (Clu.AV.tu [(Clu.AV.i IntKind.i64 (Int.ofNat 1)), (Clu.AV.i IntKind.i64 (Int.ofNat 1)), (Clu.AV.ag cp), (Clu.AV.ag cq)]))))))))) (Clu.needT ((Clu.flatB (os 10))) (.err 90 1) (Clu.needT ((Clu.flatB (os 11))) (.err 90 1) (Clu.needT ((Clu.flatB (os 12))) (.err 90 1) (Clu.needT ((Clu.flatB (os 14))) (.err 90 1) (Clu.needT ((Clu.flatB (os 15))) (.err 90 1) (Clu.needT ((Clu.flatB (os 16))) (.err 90 1) ((Clu.Out.ok (Clu.AV.tu [(Clu.AV.i IntKind.i64 (Int.ofNat 1)), (Clu.AV.i IntKind.i64 (Int.negSucc 0)), (Clu.AV.ag cp), (Clu.AV.ag cq)])))))))))) (Clu.needT ((Clu.inR IntKind.i64 (Int.ofNat (i + 1)))) (.err 10 20) (Clu.needT ((Clu.flatB (os 10))) (.err 90 1) (Clu.needT ((Clu.flatB (os 11))) (.err 90 1) (Clu.needT ((Clu.flatB (os 12))) (.err 90 1) (Clu.needT ((Clu.flatB (os 14))) (.err 90 1) (Clu.needT ((Clu.flatB (os 15))) (.err 90 1) (Clu.needT ((Clu.flatB (os 16))) (.err 90 1) ((Clu.Out.ok (Clu.AV.tu [(Clu.AV.i IntKind.i64 (Int.ofNat 0)), (Clu.AV.s n N), (Clu.AV.s m M), (Clu.AV.p 1000 0), (Clu.AV.p 1001 0), (Clu.AV.i IntKind.i64 (Int.ofNat (i + 1))), (Clu.AV.ag cp), (Clu.AV.ag cq)])))))))))))))))) := by kernel_rfl
set_option linter.unusedVariables false in
theorem cmR_0 (fo : List Clu.AV → Nat → Nat → Nat → Bool) (fl fb : List Clu.AV → Nat → Nat → Nat → Nat) (n N m M i : Nat) (cp cq : List Clu.AV) (os : Nat → Option Clu.AV) (hos : ∀ t, Clu.flatB (os t) = true) (hX : Clu.XOK Try.prog (Clu.addB Clu.noX 44 (Clu.ptrB (feB fo) 57 [] (feF fl fb)))) (hp : Clu.AV.unds 1002 cp = true) (hq : Clu.AV.unds 1002 cq = true) (n1 : (Clu.isI IntKind.i64 (Clu.getL cp 127)) = true) (c1 : (Clu.iZ (Clu.getL cp 127)) < ((i : Nat) : Int)) : ∃ os' : Nat → Option Clu.AV, (∀ t, Clu.flatB (os' t) = true) ∧ Clu.RunE Try.prog 50 (Clu.loopNo Try.f26 0) 53 1000 (Clu.mkFr 53 (Clu.std [0, 1, 5, 6, 7] [.s n N, .s m M, .p 1000 0, .p 1001 0, .i .i64 (.ofNat i)] [10, 11, 12, 14, 15, 16, 28, 29, 33, 34, 45] os)) (Clu.mkH .e ([(1000, .c cp 0 0 (some 57)), (1001, .c cq 0 0 (some 57))] ++ (Clu.layB []))) 1002 (Clu.exOf 2) (Clu.mkFr 53 (Clu.std [5, 6] [(Clu.AV.p 1000 0), (Clu.AV.p 1001 0)] [10, 11, 12, 14, 15, 16, 28, 29, 33, 34, 45] os')) (Clu.mkH .e ([(1000, .c cp 0 0 (some 57)), (1001, .c cq 0 0 (some 57))] ++ (Clu.layB []))) 1002 :=
  Clu.segM (vs := [(Clu.AV.p 1000 0), (Clu.AV.p 1001 0)]) (cs := [cp, cq]) 2 2 [5, 6] [(1000, 0, 0, (some 57)), (1001, 0, 0, (some 57))] (Clu.evL_ok Clu.plain (Clu.tell_ok (Clu.tell_ok (hX))) (Clu.drK_ok Clu.mixed) (Clu.noL_ok) 50) (Clu.layB_bs rfl (by decide) (by decide)) hos (((((((((((cmR_raw fo fl fb n N m M i cp cq os)).trans (Clu.needT_eq (n1) _ _)).trans (Clu.forkB_f (congrArg not (Clu.iLt_t c1)) _ _)).trans (Clu.needT_eq (hos _) _ _)).trans (Clu.needT_eq (hos _) _ _)).trans (Clu.needT_eq (hos _) _ _)).trans (Clu.needT_eq (hos _) _ _)).trans (Clu.needT_eq (hos _) _ _)).trans (Clu.needT_eq (hos _) _ _)).trans (Clu.needT_eq (hos _) _ _)) rfl rfl rfl (by decide) rfl (by simp [Clu.Blk.und, Clu.AV.und, Clu.AV.unds, hp, hq]) rfl (Clu.newH_ro rfl) (by simp [Clu.AV.und, Clu.AV.unds, Clu.AV.cells, Clu.unds_splice, hp, hq])
set_option linter.unusedVariables false in
theorem cmR_1 (fo : List Clu.AV → Nat → Nat → Nat → Bool) (fl fb : List Clu.AV → Nat → Nat → Nat → Nat) (n N m M i : Nat) (cp cq : List Clu.AV) (os : Nat → Option Clu.AV) (hos : ∀ t, Clu.flatB (os t) = true) (hX : Clu.XOK Try.prog (Clu.addB Clu.noX 44 (Clu.ptrB (feB fo) 57 [] (feF fl fb)))) (hp : Clu.AV.unds 1002 cp = true) (hq : Clu.AV.unds 1002 cq = true) (n1 : (Clu.isI IntKind.i64 (Clu.getL cp 127)) = true) (c1 : ((i : Nat) : Int) ≤ (Clu.iZ (Clu.getL cp 127))) (n2 : (Clu.isI IntKind.i64 (Clu.getL cq 127)) = true) (c2 : (Clu.iZ (Clu.getL cq 127)) < ((i : Nat) : Int)) : ∃ os' : Nat → Option Clu.AV, (∀ t, Clu.flatB (os' t) = true) ∧ Clu.RunE Try.prog 50 (Clu.loopNo Try.f26 0) 53 1000 (Clu.mkFr 53 (Clu.std [0, 1, 5, 6, 7] [.s n N, .s m M, .p 1000 0, .p 1001 0, .i .i64 (.ofNat i)] [10, 11, 12, 14, 15, 16, 28, 29, 33, 34, 45] os)) (Clu.mkH .e ([(1000, .c cp 0 0 (some 57)), (1001, .c cq 0 0 (some 57))] ++ (Clu.layB []))) 1002 (Clu.exOf 2) (Clu.mkFr 53 (Clu.std [5, 6] [(Clu.AV.p 1000 0), (Clu.AV.p 1001 0)] [10, 11, 12, 14, 15, 16, 28, 29, 33, 34, 45] os')) (Clu.mkH .e ([(1000, .c cp 0 0 (some 57)), (1001, .c cq 0 0 (some 57))] ++ (Clu.layB []))) 1002 :=
  Clu.segM (vs := [(Clu.AV.p 1000 0), (Clu.AV.p 1001 0)]) (cs := [cp, cq]) 2 2 [5, 6] [(1000, 0, 0, (some 57)), (1001, 0, 0, (some 57))] (Clu.evL_ok Clu.plain (Clu.tell_ok (Clu.tell_ok (hX))) (Clu.drK_ok Clu.mixed) (Clu.noL_ok) 50) (Clu.layB_bs rfl (by decide) (by decide)) hos (((((((((((((cmR_raw fo fl fb n N m M i cp cq os)).trans (Clu.needT_eq (n1) _ _)).trans (Clu.forkB_t (congrArg not (Clu.iLt_f c1)) _ _)).trans (Clu.needT_eq (n2) _ _)).trans (Clu.forkB_f (congrArg not (Clu.iLt_t c2)) _ _)).trans (Clu.needT_eq (hos _) _ _)).trans (Clu.needT_eq (hos _) _ _)).trans (Clu.needT_eq (hos _) _ _)).trans (Clu.needT_eq (hos _) _ _)).trans (Clu.needT_eq (hos _) _ _)).trans (Clu.needT_eq (hos _) _ _)).trans (Clu.needT_eq (hos _) _ _)) rfl rfl rfl (by decide) rfl (by simp [Clu.Blk.und, Clu.AV.und, Clu.AV.unds, hp, hq]) rfl (Clu.newH_ro rfl) (by simp [Clu.AV.und, Clu.AV.unds, Clu.AV.cells, Clu.unds_splice, hp, hq])
set_option linter.unusedVariables false in
theorem cmR_2 (fo : List Clu.AV → Nat → Nat → Nat → Bool) (fl fb : List Clu.AV → Nat → Nat → Nat → Nat) (n N m M i : Nat) (cp cq : List Clu.AV) (os : Nat → Option Clu.AV) (hos : ∀ t, Clu.flatB (os t) = true) (hX : Clu.XOK Try.prog (Clu.addB Clu.noX 44 (Clu.ptrB (feB fo) 57 [] (feF fl fb)))) (hp : Clu.AV.unds 1002 cp = true) (hq : Clu.AV.unds 1002 cq = true) (n1 : (Clu.isI IntKind.i64 (Clu.getL cp 127)) = true) (c1 : ((i : Nat) : Int) ≤ (Clu.iZ (Clu.getL cp 127))) (n2 : (Clu.isI IntKind.i64 (Clu.getL cq 127)) = true) (c2 : ((i : Nat) : Int) ≤ (Clu.iZ (Clu.getL cq 127))) (n3 : (fo cp n N i) = true) (n4 : (fo cq m M i) = true) (c3 : (Clu.eqNs (fl cp n N i) (fb cp n N i) (fl cq m M i) (fb cq m M i)) = false) (c4 : (Clu.ltS (fl cp n N i) (fb cp n N i) (fl cq m M i) (fb cq m M i)) = false) : ∃ os' : Nat → Option Clu.AV, (∀ t, Clu.flatB (os' t) = true) ∧ Clu.RunE Try.prog 50 (Clu.loopNo Try.f26 0) 53 1000 (Clu.mkFr 53 (Clu.std [0, 1, 5, 6, 7] [.s n N, .s m M, .p 1000 0, .p 1001 0, .i .i64 (.ofNat i)] [10, 11, 12, 14, 15, 16, 28, 29, 33, 34, 45] os)) (Clu.mkH .e ([(1000, .c cp 0 0 (some 57)), (1001, .c cq 0 0 (some 57))] ++ (Clu.layB []))) 1002 (Clu.exOf 1) (Clu.mkFr 53 (Clu.std [4] [(Clu.AV.i IntKind.i64 (Int.ofNat 1))] [10, 11, 12, 14, 15, 16, 28, 29, 33, 34, 45] os')) (Clu.mkH .e ([(1000, .c cp 0 0 (some 57)), (1001, .c cq 0 0 (some 57))] ++ (Clu.layB []))) 1002 :=
  Clu.segM (vs := [(Clu.AV.i IntKind.i64 (Int.ofNat 1))]) (cs := [cp, cq]) 1 1 [4] [(1000, 0, 0, (some 57)), (1001, 0, 0, (some 57))] (Clu.evL_ok Clu.plain (Clu.tell_ok (Clu.tell_ok (hX))) (Clu.drK_ok Clu.mixed) (Clu.noL_ok) 50) (Clu.layB_bs rfl (by decide) (by decide)) hos ((((((((((((((((cmR_raw fo fl fb n N m M i cp cq os)).trans (Clu.needT_eq (n1) _ _)).trans (Clu.forkB_t (congrArg not (Clu.iLt_f c1)) _ _)).trans (Clu.needT_eq (n2) _ _)).trans (Clu.forkB_t (congrArg not (Clu.iLt_f c2)) _ _)).trans (Clu.needT_eq (n3) _ _)).trans (Clu.needT_eq (n4) _ _)).trans (Clu.forkB_f (c3) _ _)).trans (Clu.forkB_f (c4) _ _)).trans (Clu.needT_eq (hos _) _ _)).trans (Clu.needT_eq (hos _) _ _)).trans (Clu.needT_eq (hos _) _ _)).trans (Clu.needT_eq (hos _) _ _)).trans (Clu.needT_eq (hos _) _ _)).trans (Clu.needT_eq (hos _) _ _)) rfl rfl rfl (by decide) rfl (by simp [Clu.Blk.und, Clu.AV.und, Clu.AV.unds, hp, hq]) rfl (Clu.newH_ro rfl) (by simp [Clu.AV.und, Clu.AV.unds, Clu.AV.cells, Clu.unds_splice, hp, hq])
set_option linter.unusedVariables false in
theorem cmR_3 (fo : List Clu.AV → Nat → Nat → Nat → Bool) (fl fb : List Clu.AV → Nat → Nat → Nat → Nat) (n N m M i : Nat) (cp cq : List Clu.AV) (os : Nat → Option Clu.AV) (hos : ∀ t, Clu.flatB (os t) = true) (hX : Clu.XOK Try.prog (Clu.addB Clu.noX 44 (Clu.ptrB (feB fo) 57 [] (feF fl fb)))) (hp : Clu.AV.unds 1002 cp = true) (hq : Clu.AV.unds 1002 cq = true) (n1 : (Clu.isI IntKind.i64 (Clu.getL cp 127)) = true) (c1 : ((i : Nat) : Int) ≤ (Clu.iZ (Clu.getL cp 127))) (n2 : (Clu.isI IntKind.i64 (Clu.getL cq 127)) = true) (c2 : ((i : Nat) : Int) ≤ (Clu.iZ (Clu.getL cq 127))) (n3 : (fo cp n N i) = true) (n4 : (fo cq m M i) = true) (c3 : (Clu.eqNs (fl cp n N i) (fb cp n N i) (fl cq m M i) (fb cq m M i)) = false) (c4 : (Clu.ltS (fl cp n N i) (fb cp n N i) (fl cq m M i) (fb cq m M i)) = true) : ∃ os' : Nat → Option Clu.AV, (∀ t, Clu.flatB (os' t) = true) ∧ Clu.RunE Try.prog 50 (Clu.loopNo Try.f26 0) 53 1000 (Clu.mkFr 53 (Clu.std [0, 1, 5, 6, 7] [.s n N, .s m M, .p 1000 0, .p 1001 0, .i .i64 (.ofNat i)] [10, 11, 12, 14, 15, 16, 28, 29, 33, 34, 45] os)) (Clu.mkH .e ([(1000, .c cp 0 0 (some 57)), (1001, .c cq 0 0 (some 57))] ++ (Clu.layB []))) 1002 (Clu.exOf 1) (Clu.mkFr 53 (Clu.std [4] [(Clu.AV.i IntKind.i64 (Int.negSucc 0))] [10, 11, 12, 14, 15, 16, 28, 29, 33, 34, 45] os')) (Clu.mkH .e ([(1000, .c cp 0 0 (some 57)), (1001, .c cq 0 0 (some 57))] ++ (Clu.layB []))) 1002 :=
  Clu.segM (vs := [(Clu.AV.i IntKind.i64 (Int.negSucc 0))]) (cs := [cp, cq]) 1 1 [4] [(1000, 0, 0, (some 57)), (1001, 0, 0, (some 57))] (Clu.evL_ok Clu.plain (Clu.tell_ok (Clu.tell_ok (hX))) (Clu.drK_ok Clu.mixed) (Clu.noL_ok) 50) (Clu.layB_bs rfl (by decide) (by decide)) hos ((((((((((((((((cmR_raw fo fl fb n N m M i cp cq os)).trans (Clu.needT_eq (n1) _ _)).trans (Clu.forkB_t (congrArg not (Clu.iLt_f c1)) _ _)).trans (Clu.needT_eq (n2) _ _)).trans (Clu.forkB_t (congrArg not (Clu.iLt_f c2)) _ _)).trans (Clu.needT_eq (n3) _ _)).trans (Clu.needT_eq (n4) _ _)).trans (Clu.forkB_f (c3) _ _)).trans (Clu.forkB_t (c4) _ _)).trans (Clu.needT_eq (hos _) _ _)).trans (Clu.needT_eq (hos _) _ _)).trans (Clu.needT_eq (hos _) _ _)).trans (Clu.needT_eq (hos _) _ _)).trans (Clu.needT_eq (hos _) _ _)).trans (Clu.needT_eq (hos _) _ _)) rfl rfl rfl (by decide) rfl (by simp [Clu.Blk.und, Clu.AV.und, Clu.AV.unds, hp, hq]) rfl (Clu.newH_ro rfl) (by simp [Clu.AV.und, Clu.AV.unds, Clu.AV.cells, Clu.unds_splice, hp, hq])
set_option linter.unusedVariables false in
theorem cmR_4 (fo : List Clu.AV → Nat → Nat → Nat → Bool) (fl fb : List Clu.AV → Nat → Nat → Nat → Nat) (n N m M i : Nat) (cp cq : List Clu.AV) (os : Nat → Option Clu.AV) (hos : ∀ t, Clu.flatB (os t) = true) (hX : Clu.XOK Try.prog (Clu.addB Clu.noX 44 (Clu.ptrB (feB fo) 57 [] (feF fl fb)))) (hp : Clu.AV.unds 1002 cp = true) (hq : Clu.AV.unds 1002 cq = true) (n1 : (Clu.isI IntKind.i64 (Clu.getL cp 127)) = true) (c1 : ((i : Nat) : Int) ≤ (Clu.iZ (Clu.getL cp 127))) (n2 : (Clu.isI IntKind.i64 (Clu.getL cq 127)) = true) (c2 : ((i : Nat) : Int) ≤ (Clu.iZ (Clu.getL cq 127))) (n3 : (fo cp n N i) = true) (n4 : (fo cq m M i) = true) (c3 : (Clu.eqNs (fl cp n N i) (fb cp n N i) (fl cq m M i) (fb cq m M i)) = true) (n5 : (i + 1) < 9223372036854775808 := by omega) : ∃ os' : Nat → Option Clu.AV, (∀ t, Clu.flatB (os' t) = true) ∧ Clu.RunE Try.prog 50 (Clu.loopNo Try.f26 0) 53 1000 (Clu.mkFr 53 (Clu.std [0, 1, 5, 6, 7] [.s n N, .s m M, .p 1000 0, .p 1001 0, .i .i64 (.ofNat i)] [10, 11, 12, 14, 15, 16, 28, 29, 33, 34, 45] os)) (Clu.mkH .e ([(1000, .c cp 0 0 (some 57)), (1001, .c cq 0 0 (some 57))] ++ (Clu.layB []))) 1002 (Clu.exOf 0) (Clu.mkFr 53 (Clu.std [0, 1, 5, 6, 7] [(Clu.AV.s n N), (Clu.AV.s m M), (Clu.AV.p 1000 0), (Clu.AV.p 1001 0), (Clu.AV.i IntKind.i64 (Int.ofNat (i + 1)))] [10, 11, 12, 14, 15, 16, 28, 29, 33, 34, 45] os')) (Clu.mkH .e ([(1000, .c cp 0 0 (some 57)), (1001, .c cq 0 0 (some 57))] ++ (Clu.layB []))) 1002 :=
  Clu.segM (vs := [(Clu.AV.s n N), (Clu.AV.s m M), (Clu.AV.p 1000 0), (Clu.AV.p 1001 0), (Clu.AV.i IntKind.i64 (Int.ofNat (i + 1)))]) (cs := [cp, cq]) 0 0 [0, 1, 5, 6, 7] [(1000, 0, 0, (some 57)), (1001, 0, 0, (some 57))] (Clu.evL_ok Clu.plain (Clu.tell_ok (Clu.tell_ok (hX))) (Clu.drK_ok Clu.mixed) (Clu.noL_ok) 50) (Clu.layB_bs rfl (by decide) (by decide)) hos ((((((((((((((((cmR_raw fo fl fb n N m M i cp cq os)).trans (Clu.needT_eq (n1) _ _)).trans (Clu.forkB_t (congrArg not (Clu.iLt_f c1)) _ _)).trans (Clu.needT_eq (n2) _ _)).trans (Clu.forkB_t (congrArg not (Clu.iLt_f c2)) _ _)).trans (Clu.needT_eq (n3) _ _)).trans (Clu.needT_eq (n4) _ _)).trans (Clu.forkB_t (c3) _ _)).trans (Clu.needT_eq (Clu.inR_nat (k := .i64) n5) _ _)).trans (Clu.needT_eq (hos _) _ _)).trans (Clu.needT_eq (hos _) _ _)).trans (Clu.needT_eq (hos _) _ _)).trans (Clu.needT_eq (hos _) _ _)).trans (Clu.needT_eq (hos _) _ _)).trans (Clu.needT_eq (hos _) _ _)) rfl rfl rfl (by decide) rfl (by simp [Clu.Blk.und, Clu.AV.und, Clu.AV.unds, hp, hq]) rfl (Clu.newH_ro rfl) (by simp [Clu.AV.und, Clu.AV.unds, Clu.AV.cells, Clu.unds_splice, hp, hq])
set_option maxRecDepth 10000000 in
theorem cmF_raw (lw : Nat → Nat → Nat) (my : Nat → Nat → Bool) (pl : Nat → Nat → List Clu.AV) (sg : Int → Int) (n N m M : Nat) (done : Bool) (z : Int) : (Clu.layK [] .e fun h => Clu.runL (Clu.addL (Clu.noL) (Clu.loopNo Try.f26 0) 6 (Clu.loopM [3000024, 3000032, 3000058, 3000068, 3000090] Try.prog (Clu.loopNo Try.f26 0) [0, 1, 5, 6, 7] [10, 11, 12, 14, 15, 16, 28, 29, 33, 34, 45] [] [1000, 1001] (fun _ bl _ => .fork done (.leaf (2, [5, 6], [.p 1000 0, .p 1001 0], bl, 1002)) (.leaf (1, [4], [.i .i64 z], bl, 1002))))) Try.prog (Clu.tell (Clu.addB (Clu.addB (Clu.addB (Clu.addB Clu.noX 35 (Clu.decH (lowH lw))) 17 (Clu.decH (mayH my))) 42 (Clu.decH (plH my pl))) 45 (Clu.decH (sgH sg))) 26 30000903000068300005830000323000024) (1000) 1000 26 [.s n N, .s m M] h 1000) = Clu.needT ((Nat.blt n 9000000000000000000)) (.err 96 1) (Clu.forkB ((Bool.not (my n N))) (Clu.needT ((Nat.blt m 9000000000000000000)) (.err 96 1) (Clu.forkB ((Bool.not (my m M))) (Clu.needT ((Nat.blt n 9000000000000000000)) (.err 96 1) (Clu.needT ((Nat.blt m 9000000000000000000)) (.err 96 1) (Clu.needT ((my n (lw n N))) (.err 96 1) (Clu.needT ((my m (lw m M))) (.err 96 1) (Clu.needT ((Nat.beq ((List.length (pl n (lw n N))) + 0) 128)) (.err 40 1) (Clu.needT ((Clu.allOne (pl n (lw n N)))) (.err 13 1) (Clu.needT ((Nat.ble (0 + (List.length (pl n (lw n N)))) 128)) (.err 7 0) (Clu.needT ((Nat.beq ((List.length (pl m (lw m M))) + 0) 128)) (.err 40 1) (Clu.needT ((Clu.allOne (pl m (lw m M)))) (.err 13 1) (Clu.needT ((Nat.ble (0 + (List.length (pl m (lw m M)))) 128)) (.err 7 0) (Clu.needP ((Clu.loopNo Try.f26 0) = (Clu.loopNo Try.f26 0)) (fun _ => .err 91 0) (fun h586 => Clu.forkB (done) (Clu.needP (Clu.LoopQ (Try.prog) ((Clu.loopNo Try.f26 0)) (993) (53) (1000) ([(1000, (Clu.Blk.c (Clu.splice ((List.replicate 127 (Clu.AV.i IntKind.u8 (Int.ofNat 0))) ++ [(Clu.AV.i IntKind.i64 (Int.ofNat 0))]) 0 (pl n (lw n N))) 0 0 (Option.some 57))), (1001, (Clu.Blk.c (Clu.splice ((List.replicate 127 (Clu.AV.i IntKind.u8 (Int.ofNat 0))) ++ [(Clu.AV.i IntKind.i64 (Int.ofNat 0))]) 0 (pl m (lw m M))) 0 0 (Option.some 57)))]) (1002) (2) ([0, 1, 5, 6, 7]) ([(Clu.AV.s n (lw n N)), (Clu.AV.s m (lw m M)), (Clu.AV.p 1000 0), (Clu.AV.p 1001 0), (Clu.AV.i IntKind.i64 (Int.ofNat 1))]) ([10, 11, 12, 14, 15, 16, 28, 29, 33, 34, 45]) ([5, 6]) ([(Clu.AV.p 1000 0), (Clu.AV.p 1001 0)]) ([(1000, (Clu.Blk.c (Clu.splice ((List.replicate 127 (Clu.AV.i IntKind.u8 (Int.ofNat 0))) ++ [(Clu.AV.i IntKind.i64 (Int.ofNat 0))]) 0 (pl n (lw n N))) 0 0 (Option.some 57))), (1001, (Clu.Blk.c (Clu.splice ((List.replicate 127 (Clu.AV.i IntKind.u8 (Int.ofNat 0))) ++ [(Clu.AV.i IntKind.i64 (Int.ofNat 0))]) 0 (pl m (lw m M))) 0 0 (Option.some 57)))]) (1002)) (fun _ => .err 93 1) (fun h584 => Clu.needT ((Clu.isI IntKind.i64 (Clu.getL (Clu.splice ((List.replicate 127 (Clu.AV.i IntKind.u8 (Int.ofNat 0))) ++ [(Clu.AV.i IntKind.i64 (Int.ofNat 0))]) 0 (pl n (lw n N))) 127))) (.err 8 3) (Clu.needT ((Clu.isI IntKind.i64 (Clu.getL (Clu.splice ((List.replicate 127 (Clu.AV.i IntKind.u8 (Int.ofNat 0))) ++ [(Clu.AV.i IntKind.i64 (Int.ofNat 0))]) 0 (pl m (lw m M))) 127))) (.err 8 3) (Clu.needT ((Clu.inR IntKind.i64 ((Clu.iZ (Clu.getL (Clu.splice ((List.replicate 127 (Clu.AV.i IntKind.u8 (Int.ofNat 0))) ++ [(Clu.AV.i IntKind.i64 (Int.ofNat 0))]) 0 (pl n (lw n N))) 127)) - (Clu.iZ (Clu.getL (Clu.splice ((List.replicate 127 (Clu.AV.i IntKind.u8 (Int.ofNat 0))) ++ [(Clu.AV.i IntKind.i64 (Int.ofNat 0))]) 0 (pl m (lw m M))) 127))))) (.err 10 20) ((Clu.Out.ok (Clu.AV.i IntKind.i64 (sg ((Clu.iZ (Clu.getL (Clu.splice ((List.replicate 127 (Clu.AV.i IntKind.u8 (Int.ofNat 0))) ++ [(Clu.AV.i IntKind.i64 (Int.ofNat 0))]) 0 (pl n (lw n N))) 127)) - (Clu.iZ (Clu.getL (Clu.splice ((List.replicate 127 (Clu.AV.i IntKind.u8 (Int.ofNat 0))) ++ [(Clu.AV.i IntKind.i64 (Int.ofNat 0))]) 0 (pl m (lw m M))) 127))))))))))) (Clu.needP (Clu.LoopQ (Try.prog) ((Clu.loopNo Try.f26 0)) (993) (53) (1000) ([(1000, (Clu.Blk.c (Clu.splice ((List.replicate 127 (Clu.AV.i IntKind.u8 (Int.ofNat 0))) ++ [(Clu.AV.i IntKind.i64 (Int.ofNat 0))]) 0 (pl n (lw n N))) 0 0 (Option.some 57))), (1001, (Clu.Blk.c (Clu.splice ((List.replicate 127 (Clu.AV.i IntKind.u8 (Int.ofNat 0))) ++ [(Clu.AV.i IntKind.i64 (Int.ofNat 0))]) 0 (pl m (lw m M))) 0 0 (Option.some 57)))]) (1002) (1) ([0, 1, 5, 6, 7]) ([(Clu.AV.s n (lw n N)), (Clu.AV.s m (lw m M)), (Clu.AV.p 1000 0), (Clu.AV.p 1001 0), (Clu.AV.i IntKind.i64 (Int.ofNat 1))]) ([10, 11, 12, 14, 15, 16, 28, 29, 33, 34, 45]) ([4]) ([(Clu.AV.i IntKind.i64 z)]) ([(1000, (Clu.Blk.c (Clu.splice ((List.replicate 127 (Clu.AV.i IntKind.u8 (Int.ofNat 0))) ++ [(Clu.AV.i IntKind.i64 (Int.ofNat 0))]) 0 (pl n (lw n N))) 0 0 (Option.some 57))), (1001, (Clu.Blk.c (Clu.splice ((List.replicate 127 (Clu.AV.i IntKind.u8 (Int.ofNat 0))) ++ [(Clu.AV.i IntKind.i64 (Int.ofNat 0))]) 0 (pl m (lw m M))) 0 0 (Option.some 57)))]) (1002)) (fun _ => .err 93 1) (fun h584 => (Clu.Out.ok (Clu.AV.i IntKind.i64 z)))))))))))))))) ((Clu.Out.ok (Clu.AV.i IntKind.i64 (Int.ofNat 0)))))) ((Clu.Out.ok (Clu.AV.i IntKind.i64 (Int.ofNat 0))))) := by kernel_rfl
set_option linter.unusedVariables false in
theorem cmF_0 (lw : Nat → Nat → Nat) (my : Nat → Nat → Bool) (pl : Nat → Nat → List Clu.AV) (sg : Int → Int) (n N m M : Nat) (done : Bool) (z : Int) (hX : Clu.XOK Try.prog (Clu.addB (Clu.addB (Clu.addB (Clu.addB Clu.noX 35 (Clu.decH (lowH lw))) 17 (Clu.decH (mayH my))) 42 (Clu.decH (plH my pl))) 45 (Clu.decH (sgH sg))))  (n1 : n < 9000000000000000000 := by omega) (c1 : (my n N) = true) (n2 : m < 9000000000000000000 := by omega) (c2 : (my m M) = true) (n3 : n < 9000000000000000000 := by omega) (n4 : m < 9000000000000000000 := by omega) (n5 : (my n (lw n N)) = true) (n6 : (my m (lw m M)) = true) (n7 : ((List.length (pl n (lw n N))) + 0) = 128 := by first | omega | (simp; omega)) (n8 : (Clu.allOne (pl n (lw n N))) = true) (n9 : (0 + (List.length (pl n (lw n N)))) ≤ 128 := by first | omega | (simp; omega)) (n10 : ((List.length (pl m (lw m M))) + 0) = 128 := by first | omega | (simp; omega)) (n11 : (Clu.allOne (pl m (lw m M))) = true) (n12 : (0 + (List.length (pl m (lw m M)))) ≤ 128 := by first | omega | (simp; omega)) (c3 : done = false) (p_h584 : Clu.LoopQ (Try.prog) ((Clu.loopNo Try.f26 0)) (993) (53) (1000) ([(1000, (Clu.Blk.c (Clu.splice ((List.replicate 127 (Clu.AV.i IntKind.u8 (Int.ofNat 0))) ++ [(Clu.AV.i IntKind.i64 (Int.ofNat 0))]) 0 (pl n (lw n N))) 0 0 (Option.some 57))), (1001, (Clu.Blk.c (Clu.splice ((List.replicate 127 (Clu.AV.i IntKind.u8 (Int.ofNat 0))) ++ [(Clu.AV.i IntKind.i64 (Int.ofNat 0))]) 0 (pl m (lw m M))) 0 0 (Option.some 57)))]) (1002) (2) ([0, 1, 5, 6, 7]) ([(Clu.AV.s n (lw n N)), (Clu.AV.s m (lw m M)), (Clu.AV.p 1000 0), (Clu.AV.p 1001 0), (Clu.AV.i IntKind.i64 (Int.ofNat 1))]) ([10, 11, 12, 14, 15, 16, 28, 29, 33, 34, 45]) ([5, 6]) ([(Clu.AV.p 1000 0), (Clu.AV.p 1001 0)]) ([(1000, (Clu.Blk.c (Clu.splice ((List.replicate 127 (Clu.AV.i IntKind.u8 (Int.ofNat 0))) ++ [(Clu.AV.i IntKind.i64 (Int.ofNat 0))]) 0 (pl n (lw n N))) 0 0 (Option.some 57))), (1001, (Clu.Blk.c (Clu.splice ((List.replicate 127 (Clu.AV.i IntKind.u8 (Int.ofNat 0))) ++ [(Clu.AV.i IntKind.i64 (Int.ofNat 0))]) 0 (pl m (lw m M))) 0 0 (Option.some 57)))]) (1002)) (n13 : (Clu.isI IntKind.i64 (Clu.getL (Clu.splice ((List.replicate 127 (Clu.AV.i IntKind.u8 (Int.ofNat 0))) ++ [(Clu.AV.i IntKind.i64 (Int.ofNat 0))]) 0 (pl n (lw n N))) 127)) = true) (n14 : (Clu.isI IntKind.i64 (Clu.getL (Clu.splice ((List.replicate 127 (Clu.AV.i IntKind.u8 (Int.ofNat 0))) ++ [(Clu.AV.i IntKind.i64 (Int.ofNat 0))]) 0 (pl m (lw m M))) 127)) = true) (n15 : -9223372036854775808 ≤ ((Clu.iZ (Clu.getL (Clu.splice ((List.replicate 127 (Clu.AV.i IntKind.u8 (Int.ofNat 0))) ++ [(Clu.AV.i IntKind.i64 (Int.ofNat 0))]) 0 (pl n (lw n N))) 127)) - (Clu.iZ (Clu.getL (Clu.splice ((List.replicate 127 (Clu.AV.i IntKind.u8 (Int.ofNat 0))) ++ [(Clu.AV.i IntKind.i64 (Int.ofNat 0))]) 0 (pl m (lw m M))) 127))) ∧ ((Clu.iZ (Clu.getL (Clu.splice ((List.replicate 127 (Clu.AV.i IntKind.u8 (Int.ofNat 0))) ++ [(Clu.AV.i IntKind.i64 (Int.ofNat 0))]) 0 (pl n (lw n N))) 127)) - (Clu.iZ (Clu.getL (Clu.splice ((List.replicate 127 (Clu.AV.i IntKind.u8 (Int.ofNat 0))) ++ [(Clu.AV.i IntKind.i64 (Int.ofNat 0))]) 0 (pl m (lw m M))) 127))) < 9223372036854775808 := by first | omega | (simp; omega)) : Clu.Fact Try.prog 26 [] [.s n N, .s m M] (Clu.AV.i IntKind.i64 (sg ((Clu.iZ (Clu.getL (Clu.splice ((List.replicate 127 (Clu.AV.i IntKind.u8 (Int.ofNat 0))) ++ [(Clu.AV.i IntKind.i64 (Int.ofNat 0))]) 0 (pl n (lw n N))) 127)) - (Clu.iZ (Clu.getL (Clu.splice ((List.replicate 127 (Clu.AV.i IntKind.u8 (Int.ofNat 0))) ++ [(Clu.AV.i IntKind.i64 (Int.ofNat 0))]) 0 (pl m (lw m M))) 127))))) :=
  Clu.factL Clu.plain (Clu.tell_ok (hX)) Clu.mixed (Clu.addL_ok (Clu.noL_ok) Clu.loopM_ok) ((((((((((((((((((((((cmF_raw lw my pl sg n N m M done z)).trans (Clu.needT_eq (Clu.blt_iff.2 n1) _ _)).trans (Clu.forkB_f (congrArg not (c1)) _ _)).trans (Clu.needT_eq (Clu.blt_iff.2 n2) _ _)).trans (Clu.forkB_f (congrArg not (c2)) _ _)).trans (Clu.needT_eq (Clu.blt_iff.2 n3) _ _)).trans (Clu.needT_eq (Clu.blt_iff.2 n4) _ _)).trans (Clu.needT_eq (n5) _ _)).trans (Clu.needT_eq (n6) _ _)).trans (Clu.needT_eq (Clu.beq_iff.2 n7) _ _)).trans (Clu.needT_eq (n8) _ _)).trans (Clu.needT_eq (Clu.ble_iff.2 n9) _ _)).trans (Clu.needT_eq (Clu.beq_iff.2 n10) _ _)).trans (Clu.needT_eq (n11) _ _)).trans (Clu.needT_eq (Clu.ble_iff.2 n12) _ _)).trans (Clu.needP_eq rfl _ _)).trans (Clu.forkB_f (c3) _ _)).trans (Clu.needP_eq p_h584 _ _)).trans (Clu.needT_eq (n13) _ _)).trans (Clu.needT_eq (n14) _ _)).trans (Clu.needT_eq (Clu.inR_int (k := .i64) (half := 9223372036854775808) rfl n15) _ _)) rfl (rfl)
set_option linter.unusedVariables false in
theorem cmF_1 (lw : Nat → Nat → Nat) (my : Nat → Nat → Bool) (pl : Nat → Nat → List Clu.AV) (sg : Int → Int) (n N m M : Nat) (done : Bool) (z : Int) (hX : Clu.XOK Try.prog (Clu.addB (Clu.addB (Clu.addB (Clu.addB Clu.noX 35 (Clu.decH (lowH lw))) 17 (Clu.decH (mayH my))) 42 (Clu.decH (plH my pl))) 45 (Clu.decH (sgH sg))))  (n1 : n < 9000000000000000000 := by omega) (c1 : (my n N) = true) (n2 : m < 9000000000000000000 := by omega) (c2 : (my m M) = true) (n3 : n < 9000000000000000000 := by omega) (n4 : m < 9000000000000000000 := by omega) (n5 : (my n (lw n N)) = true) (n6 : (my m (lw m M)) = true) (n7 : ((List.length (pl n (lw n N))) + 0) = 128 := by first | omega | (simp; omega)) (n8 : (Clu.allOne (pl n (lw n N))) = true) (n9 : (0 + (List.length (pl n (lw n N)))) ≤ 128 := by first | omega | (simp; omega)) (n10 : ((List.length (pl m (lw m M))) + 0) = 128 := by first | omega | (simp; omega)) (n11 : (Clu.allOne (pl m (lw m M))) = true) (n12 : (0 + (List.length (pl m (lw m M)))) ≤ 128 := by first | omega | (simp; omega)) (c3 : done = true) (p_h584 : Clu.LoopQ (Try.prog) ((Clu.loopNo Try.f26 0)) (993) (53) (1000) ([(1000, (Clu.Blk.c (Clu.splice ((List.replicate 127 (Clu.AV.i IntKind.u8 (Int.ofNat 0))) ++ [(Clu.AV.i IntKind.i64 (Int.ofNat 0))]) 0 (pl n (lw n N))) 0 0 (Option.some 57))), (1001, (Clu.Blk.c (Clu.splice ((List.replicate 127 (Clu.AV.i IntKind.u8 (Int.ofNat 0))) ++ [(Clu.AV.i IntKind.i64 (Int.ofNat 0))]) 0 (pl m (lw m M))) 0 0 (Option.some 57)))]) (1002) (1) ([0, 1, 5, 6, 7]) ([(Clu.AV.s n (lw n N)), (Clu.AV.s m (lw m M)), (Clu.AV.p 1000 0), (Clu.AV.p 1001 0), (Clu.AV.i IntKind.i64 (Int.ofNat 1))]) ([10, 11, 12, 14, 15, 16, 28, 29, 33, 34, 45]) ([4]) ([(Clu.AV.i IntKind.i64 z)]) ([(1000, (Clu.Blk.c (Clu.splice ((List.replicate 127 (Clu.AV.i IntKind.u8 (Int.ofNat 0))) ++ [(Clu.AV.i IntKind.i64 (Int.ofNat 0))]) 0 (pl n (lw n N))) 0 0 (Option.some 57))), (1001, (Clu.Blk.c (Clu.splice ((List.replicate 127 (Clu.AV.i IntKind.u8 (Int.ofNat 0))) ++ [(Clu.AV.i IntKind.i64 (Int.ofNat 0))]) 0 (pl m (lw m M))) 0 0 (Option.some 57)))]) (1002)) : Clu.Fact Try.prog 26 [] [.s n N, .s m M] (Clu.AV.i IntKind.i64 z) :=
  Clu.factL Clu.plain (Clu.tell_ok (hX)) Clu.mixed (Clu.addL_ok (Clu.noL_ok) Clu.loopM_ok) (((((((((((((((((((cmF_raw lw my pl sg n N m M done z)).trans (Clu.needT_eq (Clu.blt_iff.2 n1) _ _)).trans (Clu.forkB_f (congrArg not (c1)) _ _)).trans (Clu.needT_eq (Clu.blt_iff.2 n2) _ _)).trans (Clu.forkB_f (congrArg not (c2)) _ _)).trans (Clu.needT_eq (Clu.blt_iff.2 n3) _ _)).trans (Clu.needT_eq (Clu.blt_iff.2 n4) _ _)).trans (Clu.needT_eq (n5) _ _)).trans (Clu.needT_eq (n6) _ _)).trans (Clu.needT_eq (Clu.beq_iff.2 n7) _ _)).trans (Clu.needT_eq (n8) _ _)).trans (Clu.needT_eq (Clu.ble_iff.2 n9) _ _)).trans (Clu.needT_eq (Clu.beq_iff.2 n10) _ _)).trans (Clu.needT_eq (n11) _ _)).trans (Clu.needT_eq (Clu.ble_iff.2 n12) _ _)).trans (Clu.needP_eq rfl _ _)).trans (Clu.forkB_t (c3) _ _)).trans (Clu.needP_eq p_h584 _ _)) rfl (rfl)
set_option linter.unusedVariables false in
theorem cmF_2 (lw : Nat → Nat → Nat) (my : Nat → Nat → Bool) (pl : Nat → Nat → List Clu.AV) (sg : Int → Int) (n N m M : Nat) (done : Bool) (z : Int) (hX : Clu.XOK Try.prog (Clu.addB (Clu.addB (Clu.addB (Clu.addB Clu.noX 35 (Clu.decH (lowH lw))) 17 (Clu.decH (mayH my))) 42 (Clu.decH (plH my pl))) 45 (Clu.decH (sgH sg))))  (n1 : n < 9000000000000000000 := by omega) (c1 : (my n N) = true) (n2 : m < 9000000000000000000 := by omega) (c2 : (my m M) = false) : Clu.Fact Try.prog 26 [] [.s n N, .s m M] (Clu.AV.i IntKind.i64 (Int.ofNat 0)) :=
  Clu.factL Clu.plain (Clu.tell_ok (hX)) Clu.mixed (Clu.addL_ok (Clu.noL_ok) Clu.loopM_ok) ((((((cmF_raw lw my pl sg n N m M done z)).trans (Clu.needT_eq (Clu.blt_iff.2 n1) _ _)).trans (Clu.forkB_f (congrArg not (c1)) _ _)).trans (Clu.needT_eq (Clu.blt_iff.2 n2) _ _)).trans (Clu.forkB_t (congrArg not (c2)) _ _)) rfl (rfl)
set_option linter.unusedVariables false in
theorem cmF_3 (lw : Nat → Nat → Nat) (my : Nat → Nat → Bool) (pl : Nat → Nat → List Clu.AV) (sg : Int → Int) (n N m M : Nat) (done : Bool) (z : Int) (hX : Clu.XOK Try.prog (Clu.addB (Clu.addB (Clu.addB (Clu.addB Clu.noX 35 (Clu.decH (lowH lw))) 17 (Clu.decH (mayH my))) 42 (Clu.decH (plH my pl))) 45 (Clu.decH (sgH sg))))  (n1 : n < 9000000000000000000 := by omega) (c1 : (my n N) = false) : Clu.Fact Try.prog 26 [] [.s n N, .s m M] (Clu.AV.i IntKind.i64 (Int.ofNat 0)) :=
  Clu.factL Clu.plain (Clu.tell_ok (hX)) Clu.mixed (Clu.addL_ok (Clu.noL_ok) Clu.loopM_ok) ((((cmF_raw lw my pl sg n N m M done z)).trans (Clu.needT_eq (Clu.blt_iff.2 n1) _ _)).trans (Clu.forkB_t (congrArg not (c1)) _ _)) rfl (rfl)
set_option maxRecDepth 10000000 in
theorem sgF_raw (z : Int) : (Clu.layK [] .e fun h => Clu.runL (Clu.noL) Try.prog (Clu.tell (Clu.noX) 45 30000123000006) (1000) 1000 45 [.i .i64 z] h 1000) = Clu.forkB ((Clu.iLt z (Int.ofNat 0))) (Clu.forkB ((Clu.iLt (Int.ofNat 0) z)) ((Clu.Out.ok (Clu.AV.i IntKind.i64 (Int.ofNat 0)))) ((Clu.Out.ok (Clu.AV.i IntKind.i64 (Int.ofNat 1))))) ((Clu.Out.ok (Clu.AV.i IntKind.i64 (Int.negSucc 0)))) := by kernel_rfl
set_option linter.unusedVariables false in
theorem sgF_0 (z : Int)  (c1 : ((0 : Nat) : Int) ≤ z) (c2 : z ≤ ((0 : Nat) : Int)) : Clu.Fact Try.prog 45 [] [.i .i64 z] (Clu.AV.i IntKind.i64 (Int.ofNat 0)) :=
  Clu.factL Clu.plain (Clu.tell_ok (Clu.noX_ok)) Clu.mixed (Clu.noL_ok) ((((sgF_raw z)).trans (Clu.forkB_f (Clu.iLt_f c1) _ _)).trans (Clu.forkB_f (Clu.iLt_f c2) _ _)) rfl (rfl)
set_option linter.unusedVariables false in
theorem sgF_1 (z : Int)  (c1 : ((0 : Nat) : Int) ≤ z) (c2 : ((0 : Nat) : Int) < z) : Clu.Fact Try.prog 45 [] [.i .i64 z] (Clu.AV.i IntKind.i64 (Int.ofNat 1)) :=
  Clu.factL Clu.plain (Clu.tell_ok (Clu.noX_ok)) Clu.mixed (Clu.noL_ok) ((((sgF_raw z)).trans (Clu.forkB_f (Clu.iLt_f c1) _ _)).trans (Clu.forkB_t (Clu.iLt_t c2) _ _)) rfl (rfl)
set_option linter.unusedVariables false in
theorem sgF_2 (z : Int)  (c1 : z < ((0 : Nat) : Int)) : Clu.Fact Try.prog 45 [] [.i .i64 z] (Clu.AV.i IntKind.i64 (Int.negSucc 0)) :=
  Clu.factL Clu.plain (Clu.tell_ok (Clu.noX_ok)) Clu.mixed (Clu.noL_ok) (((sgF_raw z)).trans (Clu.forkB_t (Clu.iLt_t c1) _ _)) rfl (rfl)
/-! places -/
def starts : Nat → List (List Nat) → List Nat
  | _, [] => []
  | a, x :: L => a :: starts (a + (1 + x.length)) L
theorem starts_length : ∀ (a : Nat) (L : List (List Nat)), (starts a L).length = L.length
  | _, [] => rfl
  | a, x :: L => by rw [starts, List.length_cons, starts_length, List.length_cons]
theorem starts_app : ∀ (a : Nat) (K L : List (List Nat)), starts a (K ++ L) = starts a K ++ starts (a + ((wire K).length - 1)) L
  | a, [], L => by rw [List.nil_append]; rfl
  | a, x :: K, L => by
    rw [List.cons_append, starts, starts, starts_app, List.cons_append]
    have := wire_pos K
    have e : (wire (x :: K)).length = x.length + 1 + (wire K).length := by simp [wire]; omega
    rw [e]
    congr 3
    omega
def PC (A : List Nat) (k : Nat) : List Clu.AV := Clu.U8 A ++ [.i .i64 (.ofNat k)]
theorem PC_length (A : List Nat) (k : Nat) : (PC A k).length = A.length + 1 := by unfold PC; rw [List.length_append, Clu.U8_length]; rfl
theorem PC_flts (A : List Nat) (k : Nat) : Clu.AV.flts (PC A k) = true := Clu.flts_all.2 fun a ha => by
  rcases List.mem_append.1 ha with h | h
  · obtain ⟨c, _, rfl⟩ := List.mem_map.1 h; rfl
  · obtain rfl := List.mem_singleton.1 h; rfl
theorem PC_one (A : List Nat) (k : Nat) : Clu.allOne (PC A k) = true := by
  induction A with
  | nil => rfl
  | cons a A ih => exact ih
theorem PC_end {A : List Nat} {k n : Nat} (h : A.length = n) : Clu.getL (PC A k) n = some (.i .i64 (.ofNat k)) := by
  rw [Clu.getL_some]
  unfold PC
  rw [List.getElem?_append_right (by rw [Clu.U8_length]; omega), Clu.U8_length, h, Nat.sub_self]
  rfl
theorem PC_at {A : List Nat} {k i : Nat} (h : i < A.length) : Clu.getL (PC A k) i = some (.i .u8 (.ofNat (A.getD i 0))) := by
  rw [← Clu.U8_get h, Clu.getL_some, Clu.getL_some]
  unfold PC
  rw [List.getElem?_append_left (by rw [Clu.U8_length]; exact h)]
theorem PC_set {A : List Nat} {k i c : Nat} (h : i < A.length) : Clu.splice (PC A k) i [.i .u8 (.ofNat c)] = PC (A.set i c) k := by
  unfold PC
  rw [← Clu.U8_splice h]
  unfold Clu.splice
  rw [List.take_append_of_le_length (by rw [Clu.U8_length]; omega), List.drop_append_of_le_length (by rw [Clu.U8_length]; simp; omega)]
  simp
theorem PC_count {A : List Nat} {k m n : Nat} (h : A.length = n) : Clu.splice (PC A k) n [.i .i64 (.ofNat m)] = PC A m := by
  unfold Clu.splice
  rw [List.drop_eq_nil_of_le (by rw [PC_length]; simp; omega)]
  unfold PC
  rw [List.take_left' (by rw [Clu.U8_length]; exact h), List.append_nil]
def placesN (L : List (List Nat)) : List Nat := starts 0 L ++ List.replicate (127 - L.length) 0
theorem labs_many {L : List (List Nat)} (h : LabOk L) : 2 * L.length + 1 ≤ (wire L).length := by
  induction L with
  | nil => exact Nat.le_refl _
  | cons x L ih =>
    have := ih h.tail
    have := h.head
    simp only [wire, List.length_cons, List.length_append]; omega
theorem placesN_length {L : List (List Nat)} (h : L.length ≤ 127) : (placesN L).length = 127 := by unfold placesN; rw [List.length_append, starts_length, List.length_replicate]; omega
theorem wire_at {L K p : List (List Nat)} {x : List Nat} (he : L = p ++ x :: K) : (wire L).getD ((wire p).length - 1) 0 = x.length ∧ (wire L).drop ((wire p).length - 1 + 1) = x ++ wire K := by
  obtain ⟨q, h1, h2⟩ := wire_app p (x :: K)
  rw [← he] at h1
  rw [h1, ← h2]
  constructor
  · rw [List.getD_eq_getElem?_getD, List.getElem?_append_right (Nat.le_refl _), Nat.sub_self]; rfl
  · rw [List.drop_append, List.drop_eq_nil_of_le (by omega), show q.length + 1 - q.length = 1 by omega]; rfl
theorem pl_A {L : List (List Nat)} (hB : Clu.B8 (wire L)) (hn : (wire L).length ≤ 255) (rs : List Clu.AV) (hr : Clu.AV.unds 1002 rs = true) (hLk : LabOk L) : ∀ (K p : List (List Nat)), L = p ++ K → Clu.LoopQ Try.prog (Clu.loopNo Try.f42 0) (51 + K.length) 27 1000 ([(1000, .c rs 0 0 (some 57)), (1001, .c (PC (starts 0 p ++ List.replicate (127 - p.length) 0) p.length) 0 0 (some 57))] ++ Clu.layB []) 1002 2 [0, 2, 3, 4] [.s (wire L).length (Clu.pk (wire L)), .p 1000 0, .p 1001 0, .i .i64 (.ofNat ((wire p).length - 1))] [8] [2, 3] [.p 1000 0, .p 1001 0] ([(1000, .c rs 0 0 (some 57)), (1001, .c (PC (placesN L) L.length) 0 0 (some 57))] ++ Clu.layB []) 1002
  | [], p, he => by
    rw [List.append_nil] at he
    subst he
    have hp := wire_pos L
    have hb : Clu.byteN (Clu.pk (wire L)) ((wire L).length - 1) = 0 := by
      rw [Clu.byteN_pk hB]
      obtain ⟨q, h1, h2⟩ := wire_app L []
      rw [List.append_nil] at h1
      rw [h1, List.length_append, show wire [] = [0] from rfl, List.length_singleton, Nat.add_sub_cancel, List.getD_eq_getElem?_getD, List.getElem?_append_right (Nat.le_refl _), Nat.sub_self]
      rfl
    exact Clu.LoopQ.out (n := 50) (by simp [Clu.exOf]) (by omega) fun os ho => plR_0 _ _ _ rs (PC (placesN L) L.length) os ho hr (Clu.flts_unds (PC_flts _ _)) (n1 := by omega) (c1 := hb)
  | x :: K, p, he => by
    have hm := labs_many hLk
    have hpl : p.length + 1 + K.length = L.length := by rw [he]; simp; omega
    have hwl : (wire L).length = (wire p).length - 1 + (wire (x :: K)).length := by rw [he, wire_app_length]
    have hpp := wire_pos p
    have hw : (wire (x :: K)).length = x.length + 1 + (wire K).length := by simp [wire]; omega
    have hx := hLk x (by rw [he]; simp)
    have hkp := wire_pos K
    have hb : Clu.byteN (Clu.pk (wire L)) ((wire p).length - 1) = x.length := by rw [Clu.byteN_pk hB]; exact (wire_at he).1
    have hA : (starts 0 p ++ List.replicate (127 - p.length) 0).length = 127 := by rw [List.length_append, starts_length, List.length_replicate]; omega
    have e1 : Clu.splice (PC (starts 0 p ++ List.replicate (127 - p.length) 0) p.length) (0 + p.length * 1) [.i .u8 (.ofNat (Clu.modN (Int.ofNat ((wire p).length - 1)) 256))] = PC (starts 0 (p ++ [x]) ++ List.replicate (127 - (p ++ [x]).length) 0) p.length := by
      rw [Nat.zero_add, Nat.mul_one, PC_set (by omega)]
      congr 1
      have e : (wire p).length - 1 = Clu.modN (Int.ofNat ((wire p).length - 1)) 256 := (Nat.mod_eq_of_lt (by omega)).symm
      rw [← e, List.set_append_right _ _ (by rw [starts_length]; exact Nat.le_refl _), starts_length, Nat.sub_self, starts_app, List.append_assoc]
      congr 1
      rw [Nat.zero_add, show 127 - p.length = (127 - (p ++ [x]).length) + 1 by rw [List.length_append, List.length_singleton]; omega, List.replicate_succ, List.set_cons_zero]
      rfl
    have hA2 : (starts 0 (p ++ [x]) ++ List.replicate (127 - (p ++ [x]).length) 0).length = 127 := by rw [List.length_append, starts_length, List.length_replicate, List.length_append, List.length_singleton]; omega
    have g1 := PC_end (k := p.length) hA
    have g2 := PC_end (k := p.length) hA2
    have hpx : (p ++ [x]).length = p.length + 1 := by rw [List.length_append]; rfl
    have ih := pl_A hB hn rs hr hLk K (p ++ [x]) (by rw [he, List.append_assoc]; rfl)
    refine Clu.LoopQ.more (show 50 ≤ 51 + K.length by omega) (fun os ho => plR_1 _ _ ((wire p).length - 1) rs _ os ho hr (Clu.flts_unds (PC_flts _ _)) (n1 := by omega) (c1 := by rw [hb]; omega) (n2 := by rw [g1]; rfl) (n597 := p.length) (e_n597 := by rw [g1]; rfl) (n3 := by omega) (n4 := by rw [PC_length]; omega) (n5 := by rw [e1, g2]; rfl) (n6 := by rw [e1, g2]; show -9223372036854775808 ≤ (p.length : Int) + 1 ∧ (p.length : Int) + 1 < 9223372036854775808; omega) (n7 := by rw [e1, PC_length, hA2]; omega) (n8 := by omega) (n9 := by rw [hb]; omega) (n10 := by rw [hb]; omega) (n11 := by rw [hb]; omega)) ?_
    have e2 : (wire (p ++ [x])).length - 1 = (wire p).length - 1 + (1 + x.length) := by
      have := wire_app_length p [x]
      rw [this]
      simp [wire]; omega
    rw [hb, e1, g2]
    show Clu.LoopQ _ _ _ _ _ ([_, (1001, .c (Clu.splice (PC _ p.length) 127 [.i .i64 (.ofNat (p.length + 1))]) 0 0 (some 57))] ++ _) _ _ _ _ _ _ _ _ _
    rw [PC_count hA2, ← e2, ← hpx]
    exact ih
noncomputable def plFn (n N : Nat) : List Clu.AV := match labs (Clu.lst n N) with
  | some L => PC (placesN L) L.length
  | none => []
theorem plFn_wire {L : List (List Nat)} (h : LabOk L) (hB : Clu.B8 (wire L)) : plFn (wire L).length (Clu.pk (wire L)) = PC (placesN L) L.length := by unfold plFn; rw [Clu.lst_pk hB, labs_wire h]
theorem placesOf_fact {L : List (List Nat)} (h : LabOk L) (hB : Clu.B8 (wire L)) (hn : (wire L).length ≤ 255) : Clu.Fact Try.prog 42 [] [.s (wire L).length (Clu.pk (wire L))] (.ag (PC (placesN L) L.length)) := by
  have hm := labs_many h
  have hP := placesN_length (L := L) (by omega)
  have hl := PC_length (placesN L) L.length
  have z0 : Clu.AV.unds 1002 (List.replicate 127 (Clu.AV.i IntKind.u8 (Int.ofNat 0)) ++ [(Clu.AV.i IntKind.i64 (Int.ofNat 0))]) = true := by decide
  have e1 : List.take 128 (List.drop 0 (PC (placesN L) L.length)) = PC (placesN L) L.length := by rw [List.drop_zero, List.take_of_length_le (by omega)]
  have e2 : Clu.splice (List.replicate 127 (Clu.AV.i IntKind.u8 (Int.ofNat 0)) ++ [(Clu.AV.i IntKind.i64 (Int.ofNat 0))]) 0 (List.take 128 (List.drop 0 (PC (placesN L) L.length))) = PC (placesN L) L.length := by
    rw [e1]; exact Clu.splice_full (by rw [hl, hP]; rfl)
  have := plF_0 (wire L).length (Clu.pk (wire L)) (PC (placesN L) L.length) (PC_flts _ _) (p_h599 := (pl_A hB hn _ z0 h L [] rfl).upto (by omega)) (n1 := by rw [List.drop_zero, hl, hP]; exact Nat.le_refl _) (n2 := by rw [e1, hl, hP]) (n3 := by rw [e1]; exact PC_one _ _) (n4 := by rw [e1, hl, hP]; exact Nat.le_refl _) (n5 := by
    have e2' := e2
    rw [e2', List.drop_zero, hl, hP]; exact Nat.le_refl _)
  rw [e2, List.drop_zero, List.take_of_length_le (by omega)] at this
  exact this
/-! a label from the end -/
noncomputable def labAt (n N i : Nat) : List Nat := ((labs (Clu.lst n N)).getD []).getD (((labs (Clu.lst n N)).getD []).length - i) []
open Classical in
noncomputable def foF (cs : List Clu.AV) (n N i : Nat) : Bool := decide (∃ L, LabOk L ∧ Clu.B8 (wire L) ∧ (wire L).length ≤ 255 ∧ n = (wire L).length ∧ N = Clu.pk (wire L) ∧ cs = PC (placesN L) L.length ∧ 1 ≤ i ∧ i ≤ L.length)
noncomputable def flF (cs : List Clu.AV) (n N i : Nat) : Nat := (labAt n N i).length
noncomputable def fbF (cs : List Clu.AV) (n N i : Nat) : Nat := Clu.pk (labAt n N i)
theorem fromEnd_ok : Clu.HandOK Try.prog 44 (Clu.ptrB (feB foF) 57 [] (feF flF fbF)) := Clu.ptrB_ok rfl fun cs rest v cs' hF hB => by
  unfold feF at hF
  split at hF
  case h_2 => cases hF
  rename_i n N i
  simp only [Option.some.injEq, Prod.mk.injEq] at hF
  obtain ⟨rfl, rfl⟩ := hF
  have hB := hB (foF cs n N i) (by simp [feB])
  unfold foF at hB
  have hB := @of_decide_eq_true _ (Classical.propDecidable _) hB
  obtain ⟨L, h, hB8, hn, rfl, rfl, rfl, h1, h2⟩ := hB
  have hm := labs_many h
  have hP := placesN_length (L := L) (by omega)
  have g1 := PC_end (k := L.length) hP
  obtain ⟨p, x, K, he, hpl⟩ : ∃ p x K, L = p ++ x :: K ∧ p.length = L.length - i := by
    refine ⟨L.take (L.length - i), L[L.length - i]'(by omega), L.drop (L.length - i + 1), ?_, by rw [List.length_take]; omega⟩
    rw [← List.drop_eq_getElem_cons]; exact (List.take_append_drop _ _).symm
  have hx := h x (by rw [he]; simp)
  have hlab : labAt (wire L).length (Clu.pk (wire L)) i = x := by
    unfold labAt
    rw [Clu.lst_pk hB8, labs_wire h]
    show L.getD (L.length - i) [] = x
    rw [List.getD_eq_getElem?_getD, ← hpl, he, List.getElem?_append_right (Nat.le_refl _), Nat.sub_self]
    rfl
  have hat : (placesN L).getD (L.length - i) 0 = (wire p).length - 1 := by
    unfold placesN
    rw [List.getD_eq_getElem?_getD, List.getElem?_append_left (by rw [starts_length]; omega), he, starts_app, ← he, ← hpl, List.getElem?_append_right (by rw [starts_length]; exact Nat.le_refl _), starts_length, Nat.sub_self]
    show 0 + ((wire p).length - 1) = _
    omega
  have hwl : (wire L).length = (wire p).length - 1 + (wire (x :: K)).length := by rw [he, wire_app_length]
  have hpp := wire_pos p
  have hw : (wire (x :: K)).length = x.length + 1 + (wire K).length := by simp [wire]; omega
  have hkp := wire_pos K
  obtain ⟨w1, w2⟩ := wire_at he
  have hb : Clu.byteN (Clu.pk (wire L)) ((wire p).length - 1) = x.length := by rw [Clu.byteN_pk hB8]; exact w1
  have gi : Clu.getL (PC (placesN L) L.length) (0 + (L.length - i) * 1) = some (.i .u8 (.ofNat ((wire p).length - 1))) := by
    rw [Nat.zero_add, Nat.mul_one, PC_at (by omega), hat]
  have iz : Clu.iZ (Clu.getL (PC (placesN L) L.length) 127) = Int.ofNat L.length := by rw [g1]; rfl
  have iv : Clu.iN (Clu.getL (PC (placesN L) L.length) (0 + (L.length - i) * 1)) = (wire p).length - 1 := by rw [gi]; rfl
  have := feC_0 (wire L).length (Clu.pk (wire L)) i (PC (placesN L) L.length) (PC_flts _ _) (n1 := by rw [g1]; rfl) (n2 := by rw [iz]; show -9223372036854775808 ≤ (L.length : Int) - i ∧ (L.length : Int) - i < 9223372036854775808; omega) (n598 := L.length - i) (e_n598 := by rw [iz]; show (L.length : Int) - i = ((L.length - i : Nat) : Int); omega) (n3 := by omega) (n4 := by rw [gi]; rfl) (n5 := by rw [iv]; omega) (n6 := by rw [iv]; omega) (n7 := by rw [iv]; omega) (n8 := by rw [iv]; omega) (n9 := by rw [iv, hb]; omega) (n10 := by rw [iv, hb]; omega) (n11 := by rw [iv, hb]; omega) (n12 := by omega)
  rw [iv, hb, Clu.pk_part, w2, show (wire p).length - 1 + 1 + x.length - ((wire p).length - 1 + 1) = x.length by omega, List.take_left] at this
  unfold flF fbF
  rw [hlab]
  exact this
/-! Compare -/
theorem ltNs_cmp : ∀ {l m : List Nat}, Clu.B8 l → Clu.B8 m → l ≠ m → cmpS l m = if Clu.ltNs l m = true then -1 else 1
  | [], [], _, _, h => absurd rfl h
  | [], b :: m, _, _, _ => by
    show (-1 : Int) = _
    rfl
  | a :: l, [], _, _, _ => by
    show (1 : Int) = _
    rfl
  | a :: l, b :: m, h, k, hne => by
    have ha := h.head
    have hb := k.head
    unfold cmpS lexC Clu.ltNs
    by_cases h1 : a < b
    · have e1 : Nat.blt (Nat.mod a 256) (Nat.mod b 256) = true := Clu.blt_iff.2 (by show a % 256 < b % 256; omega)
      rw [e1]
      have e2 : cmpN a b = -1 := by unfold cmpN; rw [if_pos h1]
      rw [e2]; rfl
    · have e1 : Nat.blt (Nat.mod a 256) (Nat.mod b 256) = false := Clu.blt_f (by show b % 256 ≤ a % 256; omega)
      rw [e1]
      by_cases h2 : b < a
      · have e2 : cmpN a b = 1 := by unfold cmpN; rw [if_neg h1, if_pos h2]
        have e3 : Nat.beq (Nat.mod a 256) (Nat.mod b 256) = false := Clu.beq_f (by show a % 256 ≠ b % 256; omega)
        rw [e2, e3]; rfl
      · have e : a = b := by omega
        subst e
        have e2 : cmpN a a = 0 := by unfold cmpN; rw [if_neg h1, if_neg h2]
        have e3 : Nat.beq (Nat.mod a 256) (Nat.mod a 256) = true := Clu.beq_iff.2 rfl
        rw [e2, e3]
        simp only [if_true]
        exact ltNs_cmp h.tail k.tail (fun e => hne (by rw [e]))
/-- the first difference -/
def cmpGo : List (List Nat) → List (List Nat) → Option Int
  | a :: R, b :: S => if a = b then cmpGo R S else some (if Clu.ltNs a b = true then -1 else 1)
  | _, _ => none
def sgn (z : Int) : Int := if z < 0 then -1 else if 0 < z then 1 else 0
theorem cmpGo_W : ∀ {R S : List (List Nat)}, (∀ x ∈ R, Clu.B8 x) → (∀ x ∈ S, Clu.B8 x) → cmpW R S = (cmpGo R S).getD (sgn ((R.length : Int) - S.length))
  | [], [], _, _ => rfl
  | [], b :: S, _, _ => by
    show (-1 : Int) = sgn (0 - ((S.length + 1 : Nat) : Int))
    unfold sgn; rw [if_pos (by omega)]
  | a :: R, [], _, _ => by
    show (1 : Int) = sgn (((R.length + 1 : Nat) : Int) - 0)
    unfold sgn; rw [if_neg (by omega), if_pos (by omega)]
  | a :: R, b :: S, h, k => by
    unfold cmpW lexC cmpGo
    by_cases e : a = b
    · rw [if_pos e, if_pos ((cmpS_ord.zero a b).2 e)]
      have ih := cmpGo_W (R := R) (S := S) (fun x hx => h x (List.mem_cons_of_mem _ hx)) (fun x hx => k x (List.mem_cons_of_mem _ hx))
      have e2 : ((a :: R).length : Int) - (b :: S).length = (R.length : Int) - S.length := by simp only [List.length_cons]; omega
      rw [e2]
      exact ih
    · rw [if_neg e, if_neg (fun z => e ((cmpS_ord.zero a b).1 z))]
      exact ltNs_cmp (h a (List.mem_cons_self ..)) (k b (List.mem_cons_self ..)) e
theorem foF_ok {L : List (List Nat)} {i : Nat} (h : LabOk L) (hB : Clu.B8 (wire L)) (hn : (wire L).length ≤ 255) (h1 : 1 ≤ i) (h2 : i ≤ L.length) : foF (PC (placesN L) L.length) (wire L).length (Clu.pk (wire L)) i = true := by
  unfold foF; exact @decide_eq_true _ (Classical.propDecidable _) ⟨L, h, hB, hn, rfl, rfl, rfl, h1, h2⟩
theorem labAt_rev {L p R : List (List Nat)} {a : List Nat} (h : LabOk L) (hB : Clu.B8 (wire L)) (he : L.reverse = p ++ a :: R) : labAt (wire L).length (Clu.pk (wire L)) (p.length + 1) = a := by
  unfold labAt
  rw [Clu.lst_pk hB, labs_wire h]
  show L.getD (L.length - (p.length + 1)) [] = a
  have hl : L.length = p.length + (R.length + 1) := by have := congrArg List.length he; simpa using this
  have e : L = (p ++ a :: R).reverse := by rw [← he, List.reverse_reverse]
  rw [List.getD_eq_getElem?_getD, hl, e, List.reverse_append, List.reverse_cons, List.append_assoc, List.getElem?_append_right (by simp; omega), List.length_reverse, show p.length + (R.length + 1) - (p.length + 1) - R.length = 0 by omega]
  rfl
theorem fo_XOK : Clu.XOK Try.prog (Clu.addB Clu.noX 44 (Clu.ptrB (feB foF) 57 [] (feF flF fbF))) := Clu.addB_ok Clu.noX_ok fromEnd_ok
def CmLoop (L M : List (List Nat)) (fuel i ec : Nat) (ts : List Nat) (vs : List Clu.AV) : Prop := Clu.LoopQ Try.prog (Clu.loopNo Try.f26 0) fuel 53 1000 ([(1000, .c (PC (placesN L) L.length) 0 0 (some 57)), (1001, .c (PC (placesN M) M.length) 0 0 (some 57))] ++ Clu.layB []) 1002 ec [0, 1, 5, 6, 7] [.s (wire L).length (Clu.pk (wire L)), .s (wire M).length (Clu.pk (wire M)), .p 1000 0, .p 1001 0, .i .i64 (.ofNat i)] [10, 11, 12, 14, 15, 16, 28, 29, 33, 34, 45] ts vs ([(1000, .c (PC (placesN L) L.length) 0 0 (some 57)), (1001, .c (PC (placesN M) M.length) 0 0 (some 57))] ++ Clu.layB []) 1002
theorem cm_A {L M : List (List Nat)} (hL : LabOk L) (hM : LabOk M) (bL : Clu.B8 (wire L)) (bM : Clu.B8 (wire M)) (nL : (wire L).length ≤ 255) (nM : (wire M).length ≤ 255) : ∀ (R S p q : List (List Nat)), L.reverse = p ++ R → M.reverse = q ++ S → p.length = q.length → match cmpGo R S with
    | none => CmLoop L M (51 + R.length) (p.length + 1) 2 [5, 6] [.p 1000 0, .p 1001 0]
    | some z => CmLoop L M (51 + R.length) (p.length + 1) 1 [4] [.i .i64 z]
  | [], S, p, q, hp, hq, hpq => by
    have hPL := placesN_length (L := L) (by have := labs_many hL; omega)
    have hPM := placesN_length (L := M) (by have := labs_many hM; omega)
    have g1 := PC_end (k := L.length) hPL
    have hl : L.length = p.length := by have := congrArg List.length hp; simpa using this
    show CmLoop L M (51 + 0) (p.length + 1) 2 [5, 6] _
    refine Clu.LoopQ.out (n := 50) (by simp [Clu.exOf]) (by omega) fun os ho => cmR_0 foF flF fbF _ _ _ _ _ _ _ os ho fo_XOK (Clu.flts_unds (PC_flts _ _)) (Clu.flts_unds (PC_flts _ _)) (n1 := by rw [g1]; rfl) (c1 := ?_)
    rw [g1]
    show (L.length : Int) < ((p.length + 1 : Nat) : Int)
    omega
  | a :: R, [], p, q, hp, hq, hpq => by
    have hPL := placesN_length (L := L) (by have := labs_many hL; omega)
    have hPM := placesN_length (L := M) (by have := labs_many hM; omega)
    have g1 := PC_end (k := L.length) hPL
    have g2 := PC_end (k := M.length) hPM
    have hl : L.length = p.length + (R.length + 1) := by have := congrArg List.length hp; simpa using this
    have hm : M.length = q.length := by have := congrArg List.length hq; simpa using this
    show CmLoop L M (51 + (R.length + 1)) (p.length + 1) 2 [5, 6] _
    refine Clu.LoopQ.out (n := 50) (by simp [Clu.exOf]) (by omega) fun os ho => cmR_1 foF flF fbF _ _ _ _ _ _ _ os ho fo_XOK (Clu.flts_unds (PC_flts _ _)) (Clu.flts_unds (PC_flts _ _)) (n1 := by rw [g1]; rfl) (c1 := ?_) (n2 := by rw [g2]; rfl) (c2 := ?_)
    · rw [g1]
      show ((p.length + 1 : Nat) : Int) ≤ (L.length : Int)
      omega
    · rw [g2]
      show (M.length : Int) < ((p.length + 1 : Nat) : Int)
      omega
  | a :: R, b :: S, p, q, hp, hq, hpq => by
    have mL := labs_many hL
    have mM := labs_many hM
    have hPL := placesN_length (L := L) (by omega)
    have hPM := placesN_length (L := M) (by omega)
    have g1 := PC_end (k := L.length) hPL
    have g2 := PC_end (k := M.length) hPM
    have hl : L.length = p.length + (R.length + 1) := by have := congrArg List.length hp; simpa using this
    have hm : M.length = q.length + (S.length + 1) := by have := congrArg List.length hq; simpa using this
    have la := labAt_rev hL bL hp
    have lb := labAt_rev hM bM hq
    rw [← hpq] at lb
    have ma : a ∈ L := by rw [← List.mem_reverse, hp]; simp
    have mb : b ∈ M := by rw [← List.mem_reverse, hq]; simp
    have ba := wire_b8 bL a ma
    have bb := wire_b8 bM b mb
    have ee : Clu.eqNs (flF (PC (placesN L) L.length) (wire L).length (Clu.pk (wire L)) (p.length + 1)) (fbF (PC (placesN L) L.length) (wire L).length (Clu.pk (wire L)) (p.length + 1)) (flF (PC (placesN M) M.length) (wire M).length (Clu.pk (wire M)) (p.length + 1)) (fbF (PC (placesN M) M.length) (wire M).length (Clu.pk (wire M)) (p.length + 1)) = decide (a = b) := by
      unfold flF fbF
      rw [la, lb]
      exact Clu.eqNs_iff ba bb
    have el : Clu.ltS (flF (PC (placesN L) L.length) (wire L).length (Clu.pk (wire L)) (p.length + 1)) (fbF (PC (placesN L) L.length) (wire L).length (Clu.pk (wire L)) (p.length + 1)) (flF (PC (placesN M) M.length) (wire M).length (Clu.pk (wire M)) (p.length + 1)) (fbF (PC (placesN M) M.length) (wire M).length (Clu.pk (wire M)) (p.length + 1)) = Clu.ltNs a b := by
      unfold flF fbF Clu.ltS
      rw [la, lb, Clu.lst_pk ba, Clu.lst_pk bb]
    have c1 : (((p.length + 1 : Nat) : Int)) ≤ Clu.iZ (Clu.getL (PC (placesN L) L.length) 127) := by
      rw [g1]
      show ((p.length + 1 : Nat) : Int) ≤ (L.length : Int)
      omega
    have c2 : (((p.length + 1 : Nat) : Int)) ≤ Clu.iZ (Clu.getL (PC (placesN M) M.length) 127) := by
      rw [g2]
      show ((p.length + 1 : Nat) : Int) ≤ (M.length : Int)
      omega
    have n1 : Clu.isI IntKind.i64 (Clu.getL (PC (placesN L) L.length) 127) = true := by rw [g1]; rfl
    have n2 : Clu.isI IntKind.i64 (Clu.getL (PC (placesN M) M.length) 127) = true := by rw [g2]; rfl
    have n3 := foF_ok hL bL nL (i := p.length + 1) (by omega) (by omega)
    have n4 := foF_ok hM bM nM (i := p.length + 1) (by omega) (by omega)
    unfold cmpGo
    by_cases h : a = b
    · rw [if_pos h]
      have ih := cm_A hL hM bL bM nL nM R S (p ++ [a]) (q ++ [b]) (by rw [hp, List.append_assoc]; rfl) (by rw [hq, List.append_assoc]; rfl) (by simp [hpq])
      have e : (p ++ [a]).length = p.length + 1 := by simp
      rw [e] at ih
      have key : ∀ ec ts vs, CmLoop L M (51 + R.length) (p.length + 1 + 1) ec ts vs → CmLoop L M (51 + (R.length + 1)) (p.length + 1) ec ts vs := fun ec ts vs hh =>
        Clu.LoopQ.more (show 50 ≤ 51 + R.length by omega) (fun os ho => cmR_4 foF flF fbF _ _ _ _ (p.length + 1) _ _ os ho fo_XOK (Clu.flts_unds (PC_flts _ _)) (Clu.flts_unds (PC_flts _ _)) (n1 := n1) (c1 := c1) (n2 := n2) (c2 := c2) (n3 := n3) (n4 := n4) (c3 := by rw [ee]; exact decide_eq_true h) (n5 := by omega)) hh
      cases hc : cmpGo R S with
      | none => rw [hc] at ih; exact key _ _ _ ih
      | some z => rw [hc] at ih; exact key _ _ _ ih
    · rw [if_neg h]
      cases hlt : Clu.ltNs a b with
      | true =>
        show CmLoop L M (51 + (R.length + 1)) (p.length + 1) 1 [4] [.i .i64 (-1)]
        exact Clu.LoopQ.out (n := 50) (by simp [Clu.exOf]) (by omega) fun os ho => cmR_3 foF flF fbF _ _ _ _ _ _ _ os ho fo_XOK (Clu.flts_unds (PC_flts _ _)) (Clu.flts_unds (PC_flts _ _)) (n1 := n1) (c1 := c1) (n2 := n2) (c2 := c2) (n3 := n3) (n4 := n4) (c3 := by rw [ee]; exact decide_eq_false h) (c4 := by rw [el]; exact hlt)
      | false =>
        show CmLoop L M (51 + (R.length + 1)) (p.length + 1) 1 [4] [.i .i64 1]
        exact Clu.LoopQ.out (n := 50) (by simp [Clu.exOf]) (by omega) fun os ho => cmR_2 foF flF fbF _ _ _ _ _ _ _ os ho fo_XOK (Clu.flts_unds (PC_flts _ _)) (Clu.flts_unds (PC_flts _ _)) (n1 := n1) (c1 := c1) (n2 := n2) (c2 := c2) (n3 := n3) (n4 := n4) (c3 := by rw [ee]; exact decide_eq_false h) (c4 := by rw [el]; exact hlt)
theorem plH_ok : Clu.HandOK Try.prog 42 (Clu.decH (plH myF plFn)) := Clu.decH_ok fun args v h => by
  unfold plH at h
  split at h
  · rename_i n N
    obtain ⟨h1, h2⟩ := h
    have h2 : Clu.AV.ag (plFn n N) = v := h2
    subst h2
    unfold myF at h1
    obtain ⟨L, e, oL, hL⟩ := mayB_iff.1 h1
    refine Clu.Fact.s1 ?_
    have hb := Clu.lst_b8 n N
    unfold plFn
    rw [e] at hb hL ⊢
    rw [labs_wire oL]
    exact placesOf_fact oL hb hL
  · exact h.elim
theorem sgH_ok : Clu.HandOK Try.prog 45 (Clu.decH (sgH sgn)) := Clu.decH_ok fun args v h => by
  unfold sgH at h
  split at h
  · rename_i z
    have h2 : Clu.AV.i .i64 (sgn z) = v := h
    subst h2
    unfold sgn
    by_cases h1 : z < 0
    · rw [if_pos h1]; exact sgF_2 z h1
    · rw [if_neg h1]
      by_cases h2 : 0 < z
      · rw [if_pos h2]; exact sgF_1 z (by simpa using h1) h2
      · rw [if_neg h2]; exact sgF_0 z (by simpa using h1) (by simpa using h2)
  · exact h.elim
theorem cmX_ok : Clu.XOK Try.prog (Clu.addB (Clu.addB (Clu.addB (Clu.addB Clu.noX 35 (Clu.decH (lowH lwF))) 17 (Clu.decH (mayH myF))) 42 (Clu.decH (plH myF plFn))) 45 (Clu.decH (sgH sgn))) := Clu.addB_ok (Clu.addB_ok nmX_ok plH_ok) sgH_ok
/-- the order of bytes that are names; 0 where one is none -/
def cmpB (l m : List Nat) : Int := match mayB l && mayB m, labs l, labs m with
  | true, some L, some M => cmpL L M
  | _, _, _ => 0
theorem spl {l : List Clu.AV} (h : l.length = 128) : Clu.splice ((List.replicate 127 (Clu.AV.i IntKind.u8 (Int.ofNat 0))) ++ [(Clu.AV.i IntKind.i64 (Int.ofNat 0))]) 0 l = l := Clu.splice_full (by rw [h]; rfl)
theorem compare_core {n N m M : Nat} {L K : List (List Nat)} (hn : n = (wire L).length) (hm : m = (wire K).length) (eL : lwF n N = Clu.pk (wire L)) (eK : lwF m M = Clu.pk (wire K)) (mL : myF n N = true) (mK : myF m M = true) (oL : LabOk L) (oK : LabOk K) (bL : Clu.B8 (wire L)) (bK : Clu.B8 (wire K)) (nL : (wire L).length ≤ 255) (nK : (wire K).length ≤ 255) :
    Clu.Fact Try.prog 26 [] [.s n N, .s m M] (.i .i64 (cmpW L.reverse K.reverse)) := by
  subst hn
  subst hm
  have hPL := placesN_length (L := L) (by have := labs_many oL; omega)
  have hPK := placesN_length (L := K) (by have := labs_many oK; omega)
  have lL := PC_length (placesN L) L.length
  have lK := PC_length (placesN K) K.length
  have pL := plFn_wire oL bL
  have pK := plFn_wire oK bK
  have g1 := PC_end (k := L.length) hPL
  have g2 := PC_end (k := K.length) hPK
  have sL := spl (l := PC (placesN L) L.length) (by omega)
  have sK := spl (l := PC (placesN K) K.length) (by omega)
  have yL : myF (wire L).length (lwF (wire L).length N) = true := by rw [eL, myF_pk bL]; exact mayB_iff.2 ⟨L, rfl, oL, nL⟩
  have yK : myF (wire K).length (lwF (wire K).length M) = true := by rw [eK, myF_pk bK]; exact mayB_iff.2 ⟨K, rfl, oK, nK⟩
  have mmL := labs_many oL
  have mmK := labs_many oK
  have hc := cm_A oL oK bL bK nL nK L.reverse K.reverse [] [] rfl rfl rfl
  have hW := cmpGo_W (R := L.reverse) (S := K.reverse) (fun x hx => wire_b8 bL x (List.mem_reverse.1 hx)) (fun x hx => wire_b8 bK x (List.mem_reverse.1 hx))
  have fuel : 51 + L.reverse.length ≤ 993 := by rw [List.length_reverse]; omega
  rw [hW]
  cases hg : cmpGo L.reverse K.reverse with
  | some z =>
    rw [hg] at hc
    exact cmF_1 lwF myF plFn sgn (wire L).length N (wire K).length M true z cmX_ok (by omega) mL (by omega) mK (by omega) (by omega) yL yK (by rw [eL, pL, lL, hPL]) (by rw [eL, pL]; exact PC_one _ _) (by rw [eL, pL, lL, hPL]; exact Nat.le_refl _) (by rw [eK, pK, lK, hPK]) (by rw [eK, pK]; exact PC_one _ _) (by rw [eK, pK, lK, hPK]; exact Nat.le_refl _) rfl (by rw [eL, eK, pL, pK, sL, sK]; exact Clu.LoopQ.upto hc fuel)
  | none =>
    rw [hg] at hc
    have iL : Clu.iZ (Clu.getL (PC (placesN L) L.length) 127) = Int.ofNat L.length := by rw [g1]; rfl
    have iK : Clu.iZ (Clu.getL (PC (placesN K) K.length) 127) = Int.ofNat K.length := by rw [g2]; rfl
    have := cmF_0 lwF myF plFn sgn (wire L).length N (wire K).length M false 0 cmX_ok (by omega) mL (by omega) mK (by omega) (by omega) yL yK (by rw [eL, pL, lL, hPL]) (by rw [eL, pL]; exact PC_one _ _) (by rw [eL, pL, lL, hPL]; exact Nat.le_refl _) (by rw [eK, pK, lK, hPK]) (by rw [eK, pK]; exact PC_one _ _) (by rw [eK, pK, lK, hPK]; exact Nat.le_refl _) rfl (by rw [eL, eK, pL, pK, sL, sK]; exact Clu.LoopQ.upto hc fuel) (by rw [eL, pL]; show Clu.isI _ (Clu.getL (Clu.splice ((List.replicate 127 (Clu.AV.i IntKind.u8 (Int.ofNat 0))) ++ [(Clu.AV.i IntKind.i64 (Int.ofNat 0))]) 0 _) 127) = true; rw [sL, g1]; rfl) (by rw [eK, pK]; show Clu.isI _ (Clu.getL (Clu.splice ((List.replicate 127 (Clu.AV.i IntKind.u8 (Int.ofNat 0))) ++ [(Clu.AV.i IntKind.i64 (Int.ofNat 0))]) 0 _) 127) = true; rw [sK, g2]; rfl) (by
      rw [eL, pL, eK, pK]
      show -9223372036854775808 ≤ Clu.iZ (Clu.getL (Clu.splice ((List.replicate 127 (Clu.AV.i IntKind.u8 (Int.ofNat 0))) ++ [(Clu.AV.i IntKind.i64 (Int.ofNat 0))]) 0 _) 127) - Clu.iZ (Clu.getL (Clu.splice ((List.replicate 127 (Clu.AV.i IntKind.u8 (Int.ofNat 0))) ++ [(Clu.AV.i IntKind.i64 (Int.ofNat 0))]) 0 _) 127) ∧ Clu.iZ (Clu.getL (Clu.splice ((List.replicate 127 (Clu.AV.i IntKind.u8 (Int.ofNat 0))) ++ [(Clu.AV.i IntKind.i64 (Int.ofNat 0))]) 0 _) 127) - Clu.iZ (Clu.getL (Clu.splice ((List.replicate 127 (Clu.AV.i IntKind.u8 (Int.ofNat 0))) ++ [(Clu.AV.i IntKind.i64 (Int.ofNat 0))]) 0 _) 127) < 9223372036854775808
      rw [sL, sK, iL, iK]
      simp only [Int.ofNat_eq_natCast]
      omega)
    rw [eL, pL, eK, pK, sL, sK, iL, iK] at this
    rw [List.length_reverse, List.length_reverse]
    exact this
theorem compare_fact {l m : List Nat} (h : Clu.B8 l) (k : Clu.B8 m) (hl : l.length < 9000000000000000000) (hm : m.length < 9000000000000000000) : Clu.Fact Try.prog 26 [] [.s l.length (Clu.pk l), .s m.length (Clu.pk m)] (.i .i64 (cmpB l m)) := by
  have el := myF_pk h
  have em := myF_pk k
  unfold cmpB
  cases h1 : mayB l with
  | false => exact cmF_3 lwF myF plFn sgn l.length (Clu.pk l) m.length (Clu.pk m) false 0 cmX_ok (by omega) (by rw [el]; exact h1)
  | true =>
    cases h2 : mayB m with
    | false => exact cmF_2 lwF myF plFn sgn l.length (Clu.pk l) m.length (Clu.pk m) false 0 cmX_ok (by omega) (by rw [el]; exact h1) (by omega) (by rw [em]; exact h2)
    | true =>
      obtain ⟨L, rfl, oL, hL⟩ := mayB_iff.1 h1
      obtain ⟨K, rfl, oK, hK⟩ := mayB_iff.1 h2
      rw [labs_wire oL, labs_wire oK]
      have bL := low_b8 h
      have bK := low_b8 k
      rw [low_wire oL] at bL
      rw [low_wire oK] at bK
      have wL := wire_low_length L
      have wK := wire_low_length K
      exact compare_core wL.symm wK.symm (by rw [lwF_pk h, low_wire oL]) (by rw [lwF_pk k, low_wire oK]) (by rw [el]; exact h1) (by rw [em]; exact h2) oL.low oK.low bL bK (by omega) (by omega)

end Go.Proofs.Ytmokdhmicdmgfaa

namespace Go.Proofs.Ytmokdhmicdmgfaa
open Go.RowKit
set_option linter.unusedVariables false
set_option linter.unusedSimpArgs false
set_option maxRecDepth 100000

noncomputable def awH : List Clu.AV → Clu.Dec Clu.AV := fun args => match args with
  | [] => .leaf (.b true)
  | _ => .fail
noncomputable def s2b (f : Nat → Nat → Nat → Nat → Bool) : List Clu.AV → Clu.Dec Clu.AV := fun args => match args with
  | [.s n N, .s m M] => .need (Nat.blt n 9000000000000000000) (.need (Nat.blt m 9000000000000000000) (.leaf (.b (f n N m M))))
  | _ => .fail
noncomputable def s2i (f : Nat → Nat → Nat → Nat → Int) : List Clu.AV → Clu.Dec Clu.AV := fun args => match args with
  | [.s n N, .s m M] => .need (Nat.blt n 9000000000000000000) (.need (Nat.blt m 9000000000000000000) (.leaf (.i .i64 (f n N m M))))
  | _ => .fail
noncomputable def s1s (f : Nat → Nat → Nat × Nat) : List Clu.AV → Clu.Dec Clu.AV := fun args => match args with
  | [.s n N] => .need (Nat.blt n 9000000000000000000) (.leaf (.s (f n N).1 (f n N).2))
  | _ => .fail

/-! what stands for these functions -/
noncomputable def smF (n N m M : Nat) : Bool := sameB (Clu.lst n N) (Clu.lst m M)
noncomputable def wiF (n N m M : Nat) : Bool := withinB (Clu.lst n N) (Clu.lst m M)
noncomputable def cpF (n N m M : Nat) : Int := cmpB (Clu.lst n N) (Clu.lst m M)
noncomputable def foF1 (n N : Nat) : Nat × Nat := ((foldL (Clu.lst n N)).length, Clu.pk (foldL (Clu.lst n N)))
set_option maxRecDepth 10000000 in
theorem runsA : (Clu.layK [] .e fun h => Clu.runF Try.prog Clu.noX 1000000 1000 11 [] h 1000) = .ok (.b true) := by kernel_rfl
theorem awH_ok : Clu.HandOK Try.prog 11 (Clu.decH awH) := Clu.decH_ok fun args v h => by
  unfold awH at h
  split at h
  · have h : Clu.AV.b true = v := h
    subst h
    exact Clu.fact_of Clu.plain Clu.noX_ok Clu.mixed runsA (by kernel_rfl) (by kernel_rfl)
  · exact h.elim
theorem s2b_ok {f : FuncId} {F : Nat → Nat → Nat → Nat → Bool} (hF : ∀ l m, Clu.B8 l → Clu.B8 m → l.length < 9000000000000000000 → m.length < 9000000000000000000 → Clu.Fact Try.prog f [] [.s l.length (Clu.pk l), .s m.length (Clu.pk m)] (.b (F l.length (Clu.pk l) m.length (Clu.pk m)))) (hf : ∀ n N m M, F n N m M = F (Clu.lst n N).length (Clu.pk (Clu.lst n N)) (Clu.lst m M).length (Clu.pk (Clu.lst m M))) : Clu.HandOK Try.prog f (Clu.decH (s2b F)) := Clu.decH_ok fun args v h => by
  unfold s2b at h
  split at h
  · rename_i n N m M
    obtain ⟨h1, h2, h3⟩ := h
    have h3 : Clu.AV.b (F n N m M) = v := h3
    subst h3
    refine Clu.Fact.s2 ?_
    rw [hf n N m M]
    exact hF _ _ (Clu.lst_b8 _ _) (Clu.lst_b8 _ _) (by rw [Clu.lst_length]; exact Clu.blt_iff.1 h1) (by rw [Clu.lst_length]; exact Clu.blt_iff.1 h2)
  · exact h.elim
theorem s2i_ok {f : FuncId} {F : Nat → Nat → Nat → Nat → Int} (hF : ∀ l m, Clu.B8 l → Clu.B8 m → l.length < 9000000000000000000 → m.length < 9000000000000000000 → Clu.Fact Try.prog f [] [.s l.length (Clu.pk l), .s m.length (Clu.pk m)] (.i .i64 (F l.length (Clu.pk l) m.length (Clu.pk m)))) (hf : ∀ n N m M, F n N m M = F (Clu.lst n N).length (Clu.pk (Clu.lst n N)) (Clu.lst m M).length (Clu.pk (Clu.lst m M))) : Clu.HandOK Try.prog f (Clu.decH (s2i F)) := Clu.decH_ok fun args v h => by
  unfold s2i at h
  split at h
  · rename_i n N m M
    obtain ⟨h1, h2, h3⟩ := h
    have h3 : Clu.AV.i .i64 (F n N m M) = v := h3
    subst h3
    refine Clu.Fact.s2 ?_
    rw [hf n N m M]
    exact hF _ _ (Clu.lst_b8 _ _) (Clu.lst_b8 _ _) (by rw [Clu.lst_length]; exact Clu.blt_iff.1 h1) (by rw [Clu.lst_length]; exact Clu.blt_iff.1 h2)
  · exact h.elim
theorem smF_pk {l m : List Nat} (h : Clu.B8 l) (k : Clu.B8 m) : smF l.length (Clu.pk l) m.length (Clu.pk m) = sameB l m := by unfold smF; rw [Clu.lst_pk h, Clu.lst_pk k]
theorem wiF_pk {l m : List Nat} (h : Clu.B8 l) (k : Clu.B8 m) : wiF l.length (Clu.pk l) m.length (Clu.pk m) = withinB l m := by unfold wiF; rw [Clu.lst_pk h, Clu.lst_pk k]
theorem cpF_pk {l m : List Nat} (h : Clu.B8 l) (k : Clu.B8 m) : cpF l.length (Clu.pk l) m.length (Clu.pk m) = cmpB l m := by unfold cpF; rw [Clu.lst_pk h, Clu.lst_pk k]
theorem foF1_pk {l : List Nat} (h : Clu.B8 l) : foF1 l.length (Clu.pk l) = ((foldL l).length, Clu.pk (foldL l)) := by unfold foF1; rw [Clu.lst_pk h]
theorem sm_ok : Clu.HandOK Try.prog 22 (Clu.decH (s2b smF)) := s2b_ok (fun l m h k hl hm => by rw [smF_pk h k]; exact same_fact h k hl hm) fun n N m M => by rw [smF_pk (Clu.lst_b8 _ _) (Clu.lst_b8 _ _)]; rfl
theorem wi_ok : Clu.HandOK Try.prog 24 (Clu.decH (s2b wiF)) := s2b_ok (fun l m h k hl hm => by rw [wiF_pk h k]; exact within_fact h k hl hm) fun n N m M => by rw [wiF_pk (Clu.lst_b8 _ _) (Clu.lst_b8 _ _)]; rfl
theorem cp_ok : Clu.HandOK Try.prog 26 (Clu.decH (s2i cpF)) := s2i_ok (fun l m h k hl hm => by rw [cpF_pk h k]; exact compare_fact h k hl hm) fun n N m M => by rw [cpF_pk (Clu.lst_b8 _ _) (Clu.lst_b8 _ _)]; rfl
theorem fo_ok : Clu.HandOK Try.prog 18 (Clu.decH (s1s foF1)) := Clu.decH_ok fun args v h => by
  unfold s1s at h
  split at h
  · rename_i n N
    obtain ⟨h1, h2⟩ := h
    have h2 : Clu.AV.s (foF1 n N).1 (foF1 n N).2 = v := h2
    subst h2
    exact Clu.Fact.s1 (fold_fact (Clu.lst_b8 n N) (by rw [Clu.lst_length]; exact Clu.blt_iff.1 h1))
  · exact h.elim
theorem lawX_ok : Clu.XOK Try.prog (Clu.addB (Clu.addB (Clu.addB (Clu.addB (Clu.addB (Clu.addB (Clu.noX) 11 (Clu.decH awH)) 17 (Clu.decH (mayH myF))) 22 (Clu.decH (s2b smF))) 24 (Clu.decH (s2b wiF))) 26 (Clu.decH (s2i cpF))) 18 (Clu.decH (s1s foF1))) := Clu.addB_ok (Clu.addB_ok (Clu.addB_ok (Clu.addB_ok (Clu.addB_ok (Clu.addB_ok Clu.noX_ok awH_ok) mayH_ok) sm_ok) wi_ok) cp_ok) fo_ok

end Go.Proofs.Ytmokdhmicdmgfaa

namespace Go.Proofs.Ytmokdhmicdmgfaa
open Go.RowKit
set_option linter.unusedVariables false
set_option linter.unusedSimpArgs false
set_option maxRecDepth 100000
set_option maxRecDepth 10000000 in
theorem labA_raw (n N at_ : Nat) (os : Nat → Option Clu.AV) : Clu.evL (Clu.noL) Try.prog (Clu.noX) 50 58 1000 (Clu.loopNo Try.f12 0) (Clu.tellF [3000022, 3000032, 3000046, 3000062, 3000104, 3000112] (Clu.mkFr 58 (Clu.std [0, 4, 5] [.s n N, .sn, .i .i64 (.ofNat at_)] [3, 10, 11, 15, 16, 22, 23, 30, 31, 51, 52, 55, 56] os))) (Clu.mkH (Clu.mkH .e (Clu.layB [])) []) 1000 (Clu.finM 58 1000 [3, 10, 11, 15, 16, 22, 23, 30, 31, 51, 52, 55, 56] 0 [(0, [0, 4, 5], [(1001, 0, 1, (some 9))], some 1002), (1, [2, 3], [], none), (2, [0, 4, 5], [], none)]) = Clu.forkB ((Clu.iLt (Int.ofNat at_) (Int.ofNat n))) (Clu.needT ((Clu.flatB (os 3))) (.err 90 1) (Clu.needT ((Clu.flatB (os 22))) (.err 90 1) (Clu.needT ((Clu.flatB (os 23))) (.err 90 1) (Clu.needT ((Clu.flatB (os 30))) (.err 90 1) (Clu.needT ((Clu.flatB (os 31))) (.err 90 1) (Clu.needT ((Clu.flatB (os 51))) (.err 90 1) (Clu.needT ((Clu.flatB (os 52))) (.err 90 1) (Clu.needT ((Clu.flatB (os 55))) (.err 90 1) (Clu.needT ((Clu.flatB (os 56))) (.err 90 1) ((Clu.Out.ok (Clu.AV.tu [(Clu.AV.i IntKind.i64 (Int.ofNat 2)), (Clu.AV.s n N), Clu.AV.sn, (Clu.AV.i IntKind.i64 (Int.ofNat at_))])))))))))))) (Clu.needT ((Nat.blt at_ n)) (.err 22 6) (Clu.forkB ((Bool.not (Clu.iEq (Int.ofNat (Clu.byteN N at_)) (Int.ofNat 0)))) (Clu.needT ((Clu.flatB (os 3))) (.err 90 1) (Clu.needT ((Clu.flatB (os 22))) (.err 90 1) (Clu.needT ((Clu.flatB (os 23))) (.err 90 1) (Clu.needT ((Clu.flatB (os 30))) (.err 90 1) (Clu.needT ((Clu.flatB (os 31))) (.err 90 1) (Clu.needT ((Clu.flatB (os 51))) (.err 90 1) (Clu.needT ((Clu.flatB (os 52))) (.err 90 1) (Clu.needT ((Clu.flatB (os 55))) (.err 90 1) (Clu.needT ((Clu.flatB (os 56))) (.err 90 1) ((Clu.Out.ok (Clu.AV.tu [(Clu.AV.i IntKind.i64 (Int.ofNat 2)), (Clu.AV.s n N), Clu.AV.sn, (Clu.AV.i IntKind.i64 (Int.ofNat at_))])))))))))))) (Clu.needT ((Nat.blt at_ n)) (.err 22 6) (Clu.needT ((Clu.inR IntKind.i64 (Int.ofNat (Clu.byteN N at_)))) (.err 10 20) (Clu.forkB ((Clu.iLt (Int.ofNat 63) (Int.ofNat (Clu.byteN N at_)))) (Clu.needT ((Clu.inR IntKind.i64 (Int.ofNat (at_ + 1)))) (.err 10 20) (Clu.needT ((Clu.inR IntKind.i64 (Int.ofNat ((at_ + 1) + (Clu.byteN N at_))))) (.err 10 20) (Clu.forkB ((Clu.iLt (Int.ofNat n) (Int.ofNat ((at_ + 1) + (Clu.byteN N at_))))) (Clu.needT ((Clu.inR IntKind.i64 (Int.ofNat (at_ + 1)))) (.err 10 20) (Clu.needT ((Clu.inR IntKind.i64 (Int.ofNat (at_ + 1)))) (.err 10 20) (Clu.needT ((Clu.inR IntKind.i64 (Int.ofNat ((at_ + 1) + (Clu.byteN N at_))))) (.err 10 20) (Clu.needT ((Nat.ble ((at_ + 1) + (Clu.byteN N at_)) n)) (.err 20 0) (Clu.needT ((Nat.ble (at_ + 1) ((at_ + 1) + (Clu.byteN N at_)))) (.err 20 0) (Clu.needT ((Clu.inR IntKind.i64 (Int.ofNat (at_ + 1)))) (.err 10 20) (Clu.needT ((Clu.inR IntKind.i64 (Int.ofNat ((at_ + 1) + (Clu.byteN N at_))))) (.err 10 20) (Clu.needT ((Clu.flatB (os 3))) (.err 90 1) (Clu.needT ((Clu.flatB (os 51))) (.err 90 1) (Clu.needT ((Clu.flatB (os 52))) (.err 90 1) (Clu.needT ((Clu.flatB (os 55))) (.err 90 1) (Clu.needT ((Clu.flatB (os 56))) (.err 90 1) ((Clu.Out.ok (Clu.AV.tu [(Clu.AV.i IntKind.i64 (Int.ofNat 0)), (Clu.AV.s n N), (Clu.AV.so 1001 0 1 1), (Clu.AV.i IntKind.i64 (Int.ofNat ((at_ + 1) + (Clu.byteN N at_)))), (Clu.AV.ag ([] ++ [(Clu.AV.s (((at_ + 1) + (Clu.byteN N at_)) - (at_ + 1)) (Clu.maskN (((at_ + 1) + (Clu.byteN N at_)) - (at_ + 1)) (Nat.shiftRight N (8 * (at_ + 1)))))]))]))))))))))))))) (Clu.needT ((Clu.flatB (os 51))) (.err 90 1) (Clu.needT ((Clu.flatB (os 52))) (.err 90 1) (Clu.needT ((Clu.flatB (os 55))) (.err 90 1) (Clu.needT ((Clu.flatB (os 56))) (.err 90 1) ((Clu.Out.ok (Clu.AV.tu [(Clu.AV.i IntKind.i64 (Int.ofNat 1)), Clu.AV.sn, (Clu.AV.b false)])))))))))) (Clu.needT ((Clu.flatB (os 51))) (.err 90 1) (Clu.needT ((Clu.flatB (os 52))) (.err 90 1) (Clu.needT ((Clu.flatB (os 55))) (.err 90 1) (Clu.needT ((Clu.flatB (os 56))) (.err 90 1) ((Clu.Out.ok (Clu.AV.tu [(Clu.AV.i IntKind.i64 (Int.ofNat 1)), Clu.AV.sn, (Clu.AV.b false)])))))))))))) := by kernel_rfl
set_option linter.unusedVariables false in
theorem labA_0 (n N at_ : Nat) (os : Nat → Option Clu.AV) (hos : ∀ t, Clu.flatB (os t) = true)  (c1 : n ≤ at_) : ∃ os' : Nat → Option Clu.AV, (∀ t, Clu.flatB (os' t) = true) ∧ Clu.RunE Try.prog 50 (Clu.loopNo Try.f12 0) 58 1000 (Clu.mkFr 58 (Clu.std [0, 4, 5] [.s n N, .sn, .i .i64 (.ofNat at_)] [3, 10, 11, 15, 16, 22, 23, 30, 31, 51, 52, 55, 56] os)) (Clu.mkH .e ([] ++ (Clu.layB []))) 1000 (Clu.exOf 2) (Clu.mkFr 58 (Clu.std [0, 4, 5] [(Clu.AV.s n N), Clu.AV.sn, (Clu.AV.i IntKind.i64 (Int.ofNat at_))] [3, 10, 11, 15, 16, 22, 23, 30, 31, 51, 52, 55, 56] os')) (Clu.mkH .e ([] ++ (Clu.layB []))) 1000 :=
  Clu.segM (vs := [(Clu.AV.s n N), Clu.AV.sn, (Clu.AV.i IntKind.i64 (Int.ofNat at_))]) (cs := []) 2 2 [0, 4, 5] [] (Clu.evL_ok Clu.plain (Clu.noX_ok) (Clu.drK_ok Clu.mixed) (Clu.noL_ok) 50) (Clu.layB_bs rfl (by decide) (by decide)) hos ((((((((((((labA_raw n N at_ os)).trans (Clu.forkB_f (Clu.iLt_f (Int.ofNat_le.2 c1)) _ _)).trans (Clu.needT_eq (hos _) _ _)).trans (Clu.needT_eq (hos _) _ _)).trans (Clu.needT_eq (hos _) _ _)).trans (Clu.needT_eq (hos _) _ _)).trans (Clu.needT_eq (hos _) _ _)).trans (Clu.needT_eq (hos _) _ _)).trans (Clu.needT_eq (hos _) _ _)).trans (Clu.needT_eq (hos _) _ _)).trans (Clu.needT_eq (hos _) _ _)) rfl rfl rfl (by decide) rfl (by simp [Clu.Blk.und, Clu.AV.und, Clu.AV.unds]) rfl (Clu.newH_ro rfl) (by simp [Clu.AV.und, Clu.AV.unds, Clu.AV.cells, Clu.unds_splice])
set_option linter.unusedVariables false in
theorem labA_1 (n N at_ : Nat) (os : Nat → Option Clu.AV) (hos : ∀ t, Clu.flatB (os t) = true)  (c1 : at_ < n) (n1 : at_ < n := by omega) (c2 : (Clu.byteN N at_) = 0) : ∃ os' : Nat → Option Clu.AV, (∀ t, Clu.flatB (os' t) = true) ∧ Clu.RunE Try.prog 50 (Clu.loopNo Try.f12 0) 58 1000 (Clu.mkFr 58 (Clu.std [0, 4, 5] [.s n N, .sn, .i .i64 (.ofNat at_)] [3, 10, 11, 15, 16, 22, 23, 30, 31, 51, 52, 55, 56] os)) (Clu.mkH .e ([] ++ (Clu.layB []))) 1000 (Clu.exOf 2) (Clu.mkFr 58 (Clu.std [0, 4, 5] [(Clu.AV.s n N), Clu.AV.sn, (Clu.AV.i IntKind.i64 (Int.ofNat at_))] [3, 10, 11, 15, 16, 22, 23, 30, 31, 51, 52, 55, 56] os')) (Clu.mkH .e ([] ++ (Clu.layB []))) 1000 :=
  Clu.segM (vs := [(Clu.AV.s n N), Clu.AV.sn, (Clu.AV.i IntKind.i64 (Int.ofNat at_))]) (cs := []) 2 2 [0, 4, 5] [] (Clu.evL_ok Clu.plain (Clu.noX_ok) (Clu.drK_ok Clu.mixed) (Clu.noL_ok) 50) (Clu.layB_bs rfl (by decide) (by decide)) hos ((((((((((((((labA_raw n N at_ os)).trans (Clu.forkB_t (Clu.iLt_t (Int.ofNat_lt.2 c1)) _ _)).trans (Clu.needT_eq (Clu.blt_iff.2 n1) _ _)).trans (Clu.forkB_f (congrArg not (Clu.iEq_t (congrArg Int.ofNat c2))) _ _)).trans (Clu.needT_eq (hos _) _ _)).trans (Clu.needT_eq (hos _) _ _)).trans (Clu.needT_eq (hos _) _ _)).trans (Clu.needT_eq (hos _) _ _)).trans (Clu.needT_eq (hos _) _ _)).trans (Clu.needT_eq (hos _) _ _)).trans (Clu.needT_eq (hos _) _ _)).trans (Clu.needT_eq (hos _) _ _)).trans (Clu.needT_eq (hos _) _ _)) rfl rfl rfl (by decide) rfl (by simp [Clu.Blk.und, Clu.AV.und, Clu.AV.unds]) rfl (Clu.newH_ro rfl) (by simp [Clu.AV.und, Clu.AV.unds, Clu.AV.cells, Clu.unds_splice])
set_option linter.unusedVariables false in
theorem labA_2 (n N at_ : Nat) (os : Nat → Option Clu.AV) (hos : ∀ t, Clu.flatB (os t) = true)  (c1 : at_ < n) (n1 : at_ < n := by omega) (c2 : (Clu.byteN N at_) ≠ 0) (n2 : at_ < n := by omega) (n3 : (Clu.byteN N at_) < 9223372036854775808 := by omega) (c3 : (Clu.byteN N at_) ≤ 63) (n4 : (at_ + 1) < 9223372036854775808 := by omega) (n5 : ((at_ + 1) + (Clu.byteN N at_)) < 9223372036854775808 := by omega) (c4 : ((at_ + 1) + (Clu.byteN N at_)) ≤ n) (n6 : (at_ + 1) < 9223372036854775808 := by omega) (n7 : (at_ + 1) < 9223372036854775808 := by omega) (n8 : ((at_ + 1) + (Clu.byteN N at_)) < 9223372036854775808 := by omega) (n9 : ((at_ + 1) + (Clu.byteN N at_)) ≤ n := by omega) (n10 : (at_ + 1) ≤ ((at_ + 1) + (Clu.byteN N at_)) := by omega) (n11 : (at_ + 1) < 9223372036854775808 := by omega) (n12 : ((at_ + 1) + (Clu.byteN N at_)) < 9223372036854775808 := by omega) : ∃ os' : Nat → Option Clu.AV, (∀ t, Clu.flatB (os' t) = true) ∧ Clu.RunE Try.prog 50 (Clu.loopNo Try.f12 0) 58 1000 (Clu.mkFr 58 (Clu.std [0, 4, 5] [.s n N, .sn, .i .i64 (.ofNat at_)] [3, 10, 11, 15, 16, 22, 23, 30, 31, 51, 52, 55, 56] os)) (Clu.mkH .e ([] ++ (Clu.layB []))) 1000 (Clu.exOf 0) (Clu.mkFr 58 (Clu.std [0, 4, 5] [(Clu.AV.s n N), (Clu.AV.so 1001 0 1 1), (Clu.AV.i IntKind.i64 (Int.ofNat ((at_ + 1) + (Clu.byteN N at_))))] [3, 10, 11, 15, 16, 22, 23, 30, 31, 51, 52, 55, 56] os')) (Clu.mkH .e ([(1001, .c ([] ++ [(Clu.AV.s (((at_ + 1) + (Clu.byteN N at_)) - (at_ + 1)) (Clu.maskN (((at_ + 1) + (Clu.byteN N at_)) - (at_ + 1)) (Nat.shiftRight N (8 * (at_ + 1)))))]) 0 1 (some 9))] ++ (Clu.layB []))) 1002 :=
  Clu.segMN (vs := [(Clu.AV.s n N), (Clu.AV.so 1001 0 1 1), (Clu.AV.i IntKind.i64 (Int.ofNat ((at_ + 1) + (Clu.byteN N at_))))]) (cs := [([] ++ [(Clu.AV.s (((at_ + 1) + (Clu.byteN N at_)) - (at_ + 1)) (Clu.maskN (((at_ + 1) + (Clu.byteN N at_)) - (at_ + 1)) (Nat.shiftRight N (8 * (at_ + 1)))))])]) 0 0 [0, 4, 5] [(1001, 0, 1, (some 9))] (Clu.evL_ok Clu.plain (Clu.noX_ok) (Clu.drK_ok Clu.mixed) (Clu.noL_ok) 50) (Clu.layB_bs rfl (by decide) (by decide)) hos (((((((((((((((((((((((labA_raw n N at_ os)).trans (Clu.forkB_t (Clu.iLt_t (Int.ofNat_lt.2 c1)) _ _)).trans (Clu.needT_eq (Clu.blt_iff.2 n1) _ _)).trans (Clu.forkB_t (congrArg not (Clu.iEq_f (fun hh => c2 (Int.ofNat.inj hh)))) _ _)).trans (Clu.needT_eq (Clu.blt_iff.2 n2) _ _)).trans (Clu.needT_eq (Clu.inR_nat (k := .i64) n3) _ _)).trans (Clu.forkB_f (Clu.iLt_f (Int.ofNat_le.2 c3)) _ _)).trans (Clu.needT_eq (Clu.inR_nat (k := .i64) n4) _ _)).trans (Clu.needT_eq (Clu.inR_nat (k := .i64) n5) _ _)).trans (Clu.forkB_f (Clu.iLt_f (Int.ofNat_le.2 c4)) _ _)).trans (Clu.needT_eq (Clu.inR_nat (k := .i64) n6) _ _)).trans (Clu.needT_eq (Clu.inR_nat (k := .i64) n7) _ _)).trans (Clu.needT_eq (Clu.inR_nat (k := .i64) n8) _ _)).trans (Clu.needT_eq (Clu.ble_iff.2 n9) _ _)).trans (Clu.needT_eq (Clu.ble_iff.2 n10) _ _)).trans (Clu.needT_eq (Clu.inR_nat (k := .i64) n11) _ _)).trans (Clu.needT_eq (Clu.inR_nat (k := .i64) n12) _ _)).trans (Clu.needT_eq (hos _) _ _)).trans (Clu.needT_eq (hos _) _ _)).trans (Clu.needT_eq (hos _) _ _)).trans (Clu.needT_eq (hos _) _ _)).trans (Clu.needT_eq (hos _) _ _)) rfl rfl rfl (by simp) (by simp)
set_option linter.unusedVariables false in
theorem labA_3 (n N at_ : Nat) (os : Nat → Option Clu.AV) (hos : ∀ t, Clu.flatB (os t) = true)  (c1 : at_ < n) (n1 : at_ < n := by omega) (c2 : (Clu.byteN N at_) ≠ 0) (n2 : at_ < n := by omega) (n3 : (Clu.byteN N at_) < 9223372036854775808 := by omega) (c3 : (Clu.byteN N at_) ≤ 63) (n4 : (at_ + 1) < 9223372036854775808 := by omega) (n5 : ((at_ + 1) + (Clu.byteN N at_)) < 9223372036854775808 := by omega) (c4 : n < ((at_ + 1) + (Clu.byteN N at_))) : ∃ os' : Nat → Option Clu.AV, (∀ t, Clu.flatB (os' t) = true) ∧ Clu.RunE Try.prog 50 (Clu.loopNo Try.f12 0) 58 1000 (Clu.mkFr 58 (Clu.std [0, 4, 5] [.s n N, .sn, .i .i64 (.ofNat at_)] [3, 10, 11, 15, 16, 22, 23, 30, 31, 51, 52, 55, 56] os)) (Clu.mkH .e ([] ++ (Clu.layB []))) 1000 (Clu.exOf 1) (Clu.mkFr 58 (Clu.std [2, 3] [Clu.AV.sn, (Clu.AV.b false)] [3, 10, 11, 15, 16, 22, 23, 30, 31, 51, 52, 55, 56] os')) (Clu.mkH .e ([] ++ (Clu.layB []))) 1000 :=
  Clu.segM (vs := [Clu.AV.sn, (Clu.AV.b false)]) (cs := []) 1 1 [2, 3] [] (Clu.evL_ok Clu.plain (Clu.noX_ok) (Clu.drK_ok Clu.mixed) (Clu.noL_ok) 50) (Clu.layB_bs rfl (by decide) (by decide)) hos (((((((((((((((labA_raw n N at_ os)).trans (Clu.forkB_t (Clu.iLt_t (Int.ofNat_lt.2 c1)) _ _)).trans (Clu.needT_eq (Clu.blt_iff.2 n1) _ _)).trans (Clu.forkB_t (congrArg not (Clu.iEq_f (fun hh => c2 (Int.ofNat.inj hh)))) _ _)).trans (Clu.needT_eq (Clu.blt_iff.2 n2) _ _)).trans (Clu.needT_eq (Clu.inR_nat (k := .i64) n3) _ _)).trans (Clu.forkB_f (Clu.iLt_f (Int.ofNat_le.2 c3)) _ _)).trans (Clu.needT_eq (Clu.inR_nat (k := .i64) n4) _ _)).trans (Clu.needT_eq (Clu.inR_nat (k := .i64) n5) _ _)).trans (Clu.forkB_t (Clu.iLt_t (Int.ofNat_lt.2 c4)) _ _)).trans (Clu.needT_eq (hos _) _ _)).trans (Clu.needT_eq (hos _) _ _)).trans (Clu.needT_eq (hos _) _ _)).trans (Clu.needT_eq (hos _) _ _)) rfl rfl rfl (by decide) rfl (by simp [Clu.Blk.und, Clu.AV.und, Clu.AV.unds]) rfl (Clu.newH_ro rfl) (by simp [Clu.AV.und, Clu.AV.unds, Clu.AV.cells, Clu.unds_splice])
set_option linter.unusedVariables false in
theorem labA_4 (n N at_ : Nat) (os : Nat → Option Clu.AV) (hos : ∀ t, Clu.flatB (os t) = true)  (c1 : at_ < n) (n1 : at_ < n := by omega) (c2 : (Clu.byteN N at_) ≠ 0) (n2 : at_ < n := by omega) (n3 : (Clu.byteN N at_) < 9223372036854775808 := by omega) (c3 : 63 < (Clu.byteN N at_)) : ∃ os' : Nat → Option Clu.AV, (∀ t, Clu.flatB (os' t) = true) ∧ Clu.RunE Try.prog 50 (Clu.loopNo Try.f12 0) 58 1000 (Clu.mkFr 58 (Clu.std [0, 4, 5] [.s n N, .sn, .i .i64 (.ofNat at_)] [3, 10, 11, 15, 16, 22, 23, 30, 31, 51, 52, 55, 56] os)) (Clu.mkH .e ([] ++ (Clu.layB []))) 1000 (Clu.exOf 1) (Clu.mkFr 58 (Clu.std [2, 3] [Clu.AV.sn, (Clu.AV.b false)] [3, 10, 11, 15, 16, 22, 23, 30, 31, 51, 52, 55, 56] os')) (Clu.mkH .e ([] ++ (Clu.layB []))) 1000 :=
  Clu.segM (vs := [Clu.AV.sn, (Clu.AV.b false)]) (cs := []) 1 1 [2, 3] [] (Clu.evL_ok Clu.plain (Clu.noX_ok) (Clu.drK_ok Clu.mixed) (Clu.noL_ok) 50) (Clu.layB_bs rfl (by decide) (by decide)) hos ((((((((((((labA_raw n N at_ os)).trans (Clu.forkB_t (Clu.iLt_t (Int.ofNat_lt.2 c1)) _ _)).trans (Clu.needT_eq (Clu.blt_iff.2 n1) _ _)).trans (Clu.forkB_t (congrArg not (Clu.iEq_f (fun hh => c2 (Int.ofNat.inj hh)))) _ _)).trans (Clu.needT_eq (Clu.blt_iff.2 n2) _ _)).trans (Clu.needT_eq (Clu.inR_nat (k := .i64) n3) _ _)).trans (Clu.forkB_t (Clu.iLt_t (Int.ofNat_lt.2 c3)) _ _)).trans (Clu.needT_eq (hos _) _ _)).trans (Clu.needT_eq (hos _) _ _)).trans (Clu.needT_eq (hos _) _ _)).trans (Clu.needT_eq (hos _) _ _)) rfl rfl rfl (by decide) rfl (by simp [Clu.Blk.und, Clu.AV.und, Clu.AV.unds]) rfl (Clu.newH_ro rfl) (by simp [Clu.AV.und, Clu.AV.unds, Clu.AV.cells, Clu.unds_splice])
set_option maxRecDepth 10000000 in
theorem labB_raw (n N at_ k : Nat) (cs : List Clu.AV) (os : Nat → Option Clu.AV) : Clu.evL (Clu.noL) Try.prog (Clu.noX) 50 58 1000 (Clu.loopNo Try.f12 0) (Clu.tellF [3000022, 3000032, 3000046, 3000062, 3000104, 3000112] (Clu.mkFr 58 (Clu.std [0, 4, 5] [.s n N, .so 1000 0 1 k, .i .i64 (.ofNat at_)] [3, 10, 11, 15, 16, 22, 23, 30, 31, 51, 52, 55, 56] os))) (Clu.mkH (Clu.mkH .e (Clu.layB [])) [(1000, .c cs 0 1 (some 9))]) 1001 (Clu.finM 58 1001 [3, 10, 11, 15, 16, 22, 23, 30, 31, 51, 52, 55, 56] 0 [(0, [0, 4, 5], [(1002, 0, 1, (some 9))], some 1003), (1, [2, 3], [(1000, 0, 1, (some 9))], none), (2, [0, 4, 5], [(1000, 0, 1, (some 9))], none)]) = Clu.forkB ((Clu.iLt (Int.ofNat at_) (Int.ofNat n))) (Clu.needT ((Clu.flatB (os 3))) (.err 90 1) (Clu.needT ((Clu.flatB (os 22))) (.err 90 1) (Clu.needT ((Clu.flatB (os 23))) (.err 90 1) (Clu.needT ((Clu.flatB (os 30))) (.err 90 1) (Clu.needT ((Clu.flatB (os 31))) (.err 90 1) (Clu.needT ((Clu.flatB (os 51))) (.err 90 1) (Clu.needT ((Clu.flatB (os 52))) (.err 90 1) (Clu.needT ((Clu.flatB (os 55))) (.err 90 1) (Clu.needT ((Clu.flatB (os 56))) (.err 90 1) ((Clu.Out.ok (Clu.AV.tu [(Clu.AV.i IntKind.i64 (Int.ofNat 2)), (Clu.AV.s n N), (Clu.AV.so 1000 0 1 k), (Clu.AV.i IntKind.i64 (Int.ofNat at_)), (Clu.AV.ag cs)])))))))))))) (Clu.needT ((Nat.blt at_ n)) (.err 22 6) (Clu.forkB ((Bool.not (Clu.iEq (Int.ofNat (Clu.byteN N at_)) (Int.ofNat 0)))) (Clu.needT ((Clu.flatB (os 3))) (.err 90 1) (Clu.needT ((Clu.flatB (os 22))) (.err 90 1) (Clu.needT ((Clu.flatB (os 23))) (.err 90 1) (Clu.needT ((Clu.flatB (os 30))) (.err 90 1) (Clu.needT ((Clu.flatB (os 31))) (.err 90 1) (Clu.needT ((Clu.flatB (os 51))) (.err 90 1) (Clu.needT ((Clu.flatB (os 52))) (.err 90 1) (Clu.needT ((Clu.flatB (os 55))) (.err 90 1) (Clu.needT ((Clu.flatB (os 56))) (.err 90 1) ((Clu.Out.ok (Clu.AV.tu [(Clu.AV.i IntKind.i64 (Int.ofNat 2)), (Clu.AV.s n N), (Clu.AV.so 1000 0 1 k), (Clu.AV.i IntKind.i64 (Int.ofNat at_)), (Clu.AV.ag cs)])))))))))))) (Clu.needT ((Nat.blt at_ n)) (.err 22 6) (Clu.needT ((Clu.inR IntKind.i64 (Int.ofNat (Clu.byteN N at_)))) (.err 10 20) (Clu.forkB ((Clu.iLt (Int.ofNat 63) (Int.ofNat (Clu.byteN N at_)))) (Clu.needT ((Clu.inR IntKind.i64 (Int.ofNat (at_ + 1)))) (.err 10 20) (Clu.needT ((Clu.inR IntKind.i64 (Int.ofNat ((at_ + 1) + (Clu.byteN N at_))))) (.err 10 20) (Clu.forkB ((Clu.iLt (Int.ofNat n) (Int.ofNat ((at_ + 1) + (Clu.byteN N at_))))) (Clu.needT ((Clu.inR IntKind.i64 (Int.ofNat (at_ + 1)))) (.err 10 20) (Clu.needT ((Clu.inR IntKind.i64 (Int.ofNat (at_ + 1)))) (.err 10 20) (Clu.needT ((Clu.inR IntKind.i64 (Int.ofNat ((at_ + 1) + (Clu.byteN N at_))))) (.err 10 20) (Clu.needT ((Nat.ble ((at_ + 1) + (Clu.byteN N at_)) n)) (.err 20 0) (Clu.needT ((Nat.ble (at_ + 1) ((at_ + 1) + (Clu.byteN N at_)))) (.err 20 0) (Clu.forkB ((Nat.ble ((0 + (k + 1)) * 1) ((List.length cs) + 0))) (Clu.needT ((Bool.and (Nat.beq ((0 + k) * 1) ((List.length cs) + 0)) true)) (.err 31 6) (Clu.needT ((Nat.ble (((2 * (k + 1)) + 1000) * 16) 281474976710656)) (.err 31 1) (Clu.needT ((Nat.ble (k + 1) 4294967296)) (.err 31 1) (Clu.needT ((Clu.inR IntKind.i64 (Int.ofNat (at_ + 1)))) (.err 10 20) (Clu.needT ((Clu.inR IntKind.i64 (Int.ofNat ((at_ + 1) + (Clu.byteN N at_))))) (.err 10 20) (Clu.needT ((Clu.flatB (os 3))) (.err 90 1) (Clu.needT ((Clu.flatB (os 51))) (.err 90 1) (Clu.needT ((Clu.flatB (os 52))) (.err 90 1) (Clu.needT ((Clu.flatB (os 55))) (.err 90 1) (Clu.needT ((Clu.flatB (os 56))) (.err 90 1) ((Clu.Out.ok (Clu.AV.tu [(Clu.AV.i IntKind.i64 (Int.ofNat 0)), (Clu.AV.s n N), (Clu.AV.so 1002 0 1 (k + 1)), (Clu.AV.i IntKind.i64 (Int.ofNat ((at_ + 1) + (Clu.byteN N at_)))), (Clu.AV.ag (cs ++ [(Clu.AV.s (((at_ + 1) + (Clu.byteN N at_)) - (at_ + 1)) (Clu.maskN (((at_ + 1) + (Clu.byteN N at_)) - (at_ + 1)) (Nat.shiftRight N (8 * (at_ + 1)))))]))]))))))))))))) (Clu.needT ((Nat.ble (((0 + k) * 1) + 1) (List.length cs))) (.err 7 0) (Clu.needT ((Clu.inR IntKind.i64 (Int.ofNat (at_ + 1)))) (.err 10 20) (Clu.needT ((Clu.inR IntKind.i64 (Int.ofNat ((at_ + 1) + (Clu.byteN N at_))))) (.err 10 20) (.err 97 1)))))))))) (Clu.needT ((Clu.flatB (os 51))) (.err 90 1) (Clu.needT ((Clu.flatB (os 52))) (.err 90 1) (Clu.needT ((Clu.flatB (os 55))) (.err 90 1) (Clu.needT ((Clu.flatB (os 56))) (.err 90 1) ((Clu.Out.ok (Clu.AV.tu [(Clu.AV.i IntKind.i64 (Int.ofNat 1)), Clu.AV.sn, (Clu.AV.b false), (Clu.AV.ag cs)])))))))))) (Clu.needT ((Clu.flatB (os 51))) (.err 90 1) (Clu.needT ((Clu.flatB (os 52))) (.err 90 1) (Clu.needT ((Clu.flatB (os 55))) (.err 90 1) (Clu.needT ((Clu.flatB (os 56))) (.err 90 1) ((Clu.Out.ok (Clu.AV.tu [(Clu.AV.i IntKind.i64 (Int.ofNat 1)), Clu.AV.sn, (Clu.AV.b false), (Clu.AV.ag cs)])))))))))))) := by kernel_rfl
set_option linter.unusedVariables false in
theorem labB_0 (n N at_ k : Nat) (cs : List Clu.AV) (os : Nat → Option Clu.AV) (hos : ∀ t, Clu.flatB (os t) = true) (hu : Clu.AV.flts cs = true) (c1 : n ≤ at_) : ∃ os' : Nat → Option Clu.AV, (∀ t, Clu.flatB (os' t) = true) ∧ Clu.RunE Try.prog 50 (Clu.loopNo Try.f12 0) 58 1000 (Clu.mkFr 58 (Clu.std [0, 4, 5] [.s n N, .so 1000 0 1 k, .i .i64 (.ofNat at_)] [3, 10, 11, 15, 16, 22, 23, 30, 31, 51, 52, 55, 56] os)) (Clu.mkH .e ([(1000, .c cs 0 1 (some 9))] ++ (Clu.layB []))) 1001 (Clu.exOf 2) (Clu.mkFr 58 (Clu.std [0, 4, 5] [(Clu.AV.s n N), (Clu.AV.so 1000 0 1 k), (Clu.AV.i IntKind.i64 (Int.ofNat at_))] [3, 10, 11, 15, 16, 22, 23, 30, 31, 51, 52, 55, 56] os')) (Clu.mkH .e ([(1000, .c cs 0 1 (some 9))] ++ (Clu.layB []))) 1001 :=
  Clu.segM (vs := [(Clu.AV.s n N), (Clu.AV.so 1000 0 1 k), (Clu.AV.i IntKind.i64 (Int.ofNat at_))]) (cs := [cs]) 2 2 [0, 4, 5] [(1000, 0, 1, (some 9))] (Clu.evL_ok Clu.plain (Clu.noX_ok) (Clu.drK_ok Clu.mixed) (Clu.noL_ok) 50) (Clu.layB_bs rfl (by decide) (by decide)) hos ((((((((((((labB_raw n N at_ k cs os)).trans (Clu.forkB_f (Clu.iLt_f (Int.ofNat_le.2 c1)) _ _)).trans (Clu.needT_eq (hos _) _ _)).trans (Clu.needT_eq (hos _) _ _)).trans (Clu.needT_eq (hos _) _ _)).trans (Clu.needT_eq (hos _) _ _)).trans (Clu.needT_eq (hos _) _ _)).trans (Clu.needT_eq (hos _) _ _)).trans (Clu.needT_eq (hos _) _ _)).trans (Clu.needT_eq (hos _) _ _)).trans (Clu.needT_eq (hos _) _ _)) rfl rfl rfl (by decide) rfl (by simp [Clu.Blk.und, Clu.AV.und, Clu.AV.unds, Clu.flts_unds hu]) rfl (Clu.newH_ro rfl) (by simp [Clu.AV.und, Clu.AV.unds, Clu.AV.cells, Clu.unds_splice, Clu.flts_unds hu])
set_option linter.unusedVariables false in
theorem labB_1 (n N at_ k : Nat) (cs : List Clu.AV) (os : Nat → Option Clu.AV) (hos : ∀ t, Clu.flatB (os t) = true) (hu : Clu.AV.flts cs = true) (c1 : at_ < n) (n1 : at_ < n := by omega) (c2 : (Clu.byteN N at_) = 0) : ∃ os' : Nat → Option Clu.AV, (∀ t, Clu.flatB (os' t) = true) ∧ Clu.RunE Try.prog 50 (Clu.loopNo Try.f12 0) 58 1000 (Clu.mkFr 58 (Clu.std [0, 4, 5] [.s n N, .so 1000 0 1 k, .i .i64 (.ofNat at_)] [3, 10, 11, 15, 16, 22, 23, 30, 31, 51, 52, 55, 56] os)) (Clu.mkH .e ([(1000, .c cs 0 1 (some 9))] ++ (Clu.layB []))) 1001 (Clu.exOf 2) (Clu.mkFr 58 (Clu.std [0, 4, 5] [(Clu.AV.s n N), (Clu.AV.so 1000 0 1 k), (Clu.AV.i IntKind.i64 (Int.ofNat at_))] [3, 10, 11, 15, 16, 22, 23, 30, 31, 51, 52, 55, 56] os')) (Clu.mkH .e ([(1000, .c cs 0 1 (some 9))] ++ (Clu.layB []))) 1001 :=
  Clu.segM (vs := [(Clu.AV.s n N), (Clu.AV.so 1000 0 1 k), (Clu.AV.i IntKind.i64 (Int.ofNat at_))]) (cs := [cs]) 2 2 [0, 4, 5] [(1000, 0, 1, (some 9))] (Clu.evL_ok Clu.plain (Clu.noX_ok) (Clu.drK_ok Clu.mixed) (Clu.noL_ok) 50) (Clu.layB_bs rfl (by decide) (by decide)) hos ((((((((((((((labB_raw n N at_ k cs os)).trans (Clu.forkB_t (Clu.iLt_t (Int.ofNat_lt.2 c1)) _ _)).trans (Clu.needT_eq (Clu.blt_iff.2 n1) _ _)).trans (Clu.forkB_f (congrArg not (Clu.iEq_t (congrArg Int.ofNat c2))) _ _)).trans (Clu.needT_eq (hos _) _ _)).trans (Clu.needT_eq (hos _) _ _)).trans (Clu.needT_eq (hos _) _ _)).trans (Clu.needT_eq (hos _) _ _)).trans (Clu.needT_eq (hos _) _ _)).trans (Clu.needT_eq (hos _) _ _)).trans (Clu.needT_eq (hos _) _ _)).trans (Clu.needT_eq (hos _) _ _)).trans (Clu.needT_eq (hos _) _ _)) rfl rfl rfl (by decide) rfl (by simp [Clu.Blk.und, Clu.AV.und, Clu.AV.unds, Clu.flts_unds hu]) rfl (Clu.newH_ro rfl) (by simp [Clu.AV.und, Clu.AV.unds, Clu.AV.cells, Clu.unds_splice, Clu.flts_unds hu])
set_option linter.unusedVariables false in
theorem labB_2 (n N at_ k : Nat) (cs : List Clu.AV) (os : Nat → Option Clu.AV) (hos : ∀ t, Clu.flatB (os t) = true) (hu : Clu.AV.flts cs = true) (c1 : at_ < n) (n1 : at_ < n := by omega) (c2 : (Clu.byteN N at_) ≠ 0) (n2 : at_ < n := by omega) (n3 : (Clu.byteN N at_) < 9223372036854775808 := by omega) (c3 : (Clu.byteN N at_) ≤ 63) (n4 : (at_ + 1) < 9223372036854775808 := by omega) (n5 : ((at_ + 1) + (Clu.byteN N at_)) < 9223372036854775808 := by omega) (c4 : ((at_ + 1) + (Clu.byteN N at_)) ≤ n) (n6 : (at_ + 1) < 9223372036854775808 := by omega) (n7 : (at_ + 1) < 9223372036854775808 := by omega) (n8 : ((at_ + 1) + (Clu.byteN N at_)) < 9223372036854775808 := by omega) (n9 : ((at_ + 1) + (Clu.byteN N at_)) ≤ n := by omega) (n10 : (at_ + 1) ≤ ((at_ + 1) + (Clu.byteN N at_)) := by omega) (c5 : ((List.length cs) + 0) < ((0 + (k + 1)) * 1)) (n11 : ((0 + k) * 1) = ((List.length cs) + 0) := by first | omega | (simp; omega)) (n12 : (((2 * (k + 1)) + 1000) * 16) ≤ 281474976710656 := by omega) (n13 : (k + 1) ≤ 4294967296 := by omega) (n14 : (at_ + 1) < 9223372036854775808 := by omega) (n15 : ((at_ + 1) + (Clu.byteN N at_)) < 9223372036854775808 := by omega) : ∃ os' : Nat → Option Clu.AV, (∀ t, Clu.flatB (os' t) = true) ∧ Clu.RunE Try.prog 50 (Clu.loopNo Try.f12 0) 58 1000 (Clu.mkFr 58 (Clu.std [0, 4, 5] [.s n N, .so 1000 0 1 k, .i .i64 (.ofNat at_)] [3, 10, 11, 15, 16, 22, 23, 30, 31, 51, 52, 55, 56] os)) (Clu.mkH .e ([(1000, .c cs 0 1 (some 9))] ++ (Clu.layB []))) 1001 (Clu.exOf 0) (Clu.mkFr 58 (Clu.std [0, 4, 5] [(Clu.AV.s n N), (Clu.AV.so 1002 0 1 (k + 1)), (Clu.AV.i IntKind.i64 (Int.ofNat ((at_ + 1) + (Clu.byteN N at_))))] [3, 10, 11, 15, 16, 22, 23, 30, 31, 51, 52, 55, 56] os')) (Clu.mkH .e ([(1002, .c (cs ++ [(Clu.AV.s (((at_ + 1) + (Clu.byteN N at_)) - (at_ + 1)) (Clu.maskN (((at_ + 1) + (Clu.byteN N at_)) - (at_ + 1)) (Nat.shiftRight N (8 * (at_ + 1)))))]) 0 1 (some 9))] ++ (Clu.layB []))) 1003 :=
  Clu.segMN (vs := [(Clu.AV.s n N), (Clu.AV.so 1002 0 1 (k + 1)), (Clu.AV.i IntKind.i64 (Int.ofNat ((at_ + 1) + (Clu.byteN N at_))))]) (cs := [(cs ++ [(Clu.AV.s (((at_ + 1) + (Clu.byteN N at_)) - (at_ + 1)) (Clu.maskN (((at_ + 1) + (Clu.byteN N at_)) - (at_ + 1)) (Nat.shiftRight N (8 * (at_ + 1)))))])]) 0 0 [0, 4, 5] [(1002, 0, 1, (some 9))] (Clu.evL_ok Clu.plain (Clu.noX_ok) (Clu.drK_ok Clu.mixed) (Clu.noL_ok) 50) (Clu.layB_bs rfl (by decide) (by decide)) hos (((((((((((((((((((((((((((labB_raw n N at_ k cs os)).trans (Clu.forkB_t (Clu.iLt_t (Int.ofNat_lt.2 c1)) _ _)).trans (Clu.needT_eq (Clu.blt_iff.2 n1) _ _)).trans (Clu.forkB_t (congrArg not (Clu.iEq_f (fun hh => c2 (Int.ofNat.inj hh)))) _ _)).trans (Clu.needT_eq (Clu.blt_iff.2 n2) _ _)).trans (Clu.needT_eq (Clu.inR_nat (k := .i64) n3) _ _)).trans (Clu.forkB_f (Clu.iLt_f (Int.ofNat_le.2 c3)) _ _)).trans (Clu.needT_eq (Clu.inR_nat (k := .i64) n4) _ _)).trans (Clu.needT_eq (Clu.inR_nat (k := .i64) n5) _ _)).trans (Clu.forkB_f (Clu.iLt_f (Int.ofNat_le.2 c4)) _ _)).trans (Clu.needT_eq (Clu.inR_nat (k := .i64) n6) _ _)).trans (Clu.needT_eq (Clu.inR_nat (k := .i64) n7) _ _)).trans (Clu.needT_eq (Clu.inR_nat (k := .i64) n8) _ _)).trans (Clu.needT_eq (Clu.ble_iff.2 n9) _ _)).trans (Clu.needT_eq (Clu.ble_iff.2 n10) _ _)).trans (Clu.forkB_f (Clu.ble_f c5) _ _)).trans (Clu.needT_eq ((congrArg (fun z => Bool.and z Bool.true) (Clu.beq_iff.2 n11)).trans rfl) _ _)).trans (Clu.needT_eq (Clu.ble_iff.2 n12) _ _)).trans (Clu.needT_eq (Clu.ble_iff.2 n13) _ _)).trans (Clu.needT_eq (Clu.inR_nat (k := .i64) n14) _ _)).trans (Clu.needT_eq (Clu.inR_nat (k := .i64) n15) _ _)).trans (Clu.needT_eq (hos _) _ _)).trans (Clu.needT_eq (hos _) _ _)).trans (Clu.needT_eq (hos _) _ _)).trans (Clu.needT_eq (hos _) _ _)).trans (Clu.needT_eq (hos _) _ _)) rfl rfl rfl (by simp) (by simp)
set_option linter.unusedVariables false in
theorem labB_3 (n N at_ k : Nat) (cs : List Clu.AV) (os : Nat → Option Clu.AV) (hos : ∀ t, Clu.flatB (os t) = true) (hu : Clu.AV.flts cs = true) (c1 : at_ < n) (n1 : at_ < n := by omega) (c2 : (Clu.byteN N at_) ≠ 0) (n2 : at_ < n := by omega) (n3 : (Clu.byteN N at_) < 9223372036854775808 := by omega) (c3 : (Clu.byteN N at_) ≤ 63) (n4 : (at_ + 1) < 9223372036854775808 := by omega) (n5 : ((at_ + 1) + (Clu.byteN N at_)) < 9223372036854775808 := by omega) (c4 : n < ((at_ + 1) + (Clu.byteN N at_))) : ∃ os' : Nat → Option Clu.AV, (∀ t, Clu.flatB (os' t) = true) ∧ Clu.RunE Try.prog 50 (Clu.loopNo Try.f12 0) 58 1000 (Clu.mkFr 58 (Clu.std [0, 4, 5] [.s n N, .so 1000 0 1 k, .i .i64 (.ofNat at_)] [3, 10, 11, 15, 16, 22, 23, 30, 31, 51, 52, 55, 56] os)) (Clu.mkH .e ([(1000, .c cs 0 1 (some 9))] ++ (Clu.layB []))) 1001 (Clu.exOf 1) (Clu.mkFr 58 (Clu.std [2, 3] [Clu.AV.sn, (Clu.AV.b false)] [3, 10, 11, 15, 16, 22, 23, 30, 31, 51, 52, 55, 56] os')) (Clu.mkH .e ([(1000, .c cs 0 1 (some 9))] ++ (Clu.layB []))) 1001 :=
  Clu.segM (vs := [Clu.AV.sn, (Clu.AV.b false)]) (cs := [cs]) 1 1 [2, 3] [(1000, 0, 1, (some 9))] (Clu.evL_ok Clu.plain (Clu.noX_ok) (Clu.drK_ok Clu.mixed) (Clu.noL_ok) 50) (Clu.layB_bs rfl (by decide) (by decide)) hos (((((((((((((((labB_raw n N at_ k cs os)).trans (Clu.forkB_t (Clu.iLt_t (Int.ofNat_lt.2 c1)) _ _)).trans (Clu.needT_eq (Clu.blt_iff.2 n1) _ _)).trans (Clu.forkB_t (congrArg not (Clu.iEq_f (fun hh => c2 (Int.ofNat.inj hh)))) _ _)).trans (Clu.needT_eq (Clu.blt_iff.2 n2) _ _)).trans (Clu.needT_eq (Clu.inR_nat (k := .i64) n3) _ _)).trans (Clu.forkB_f (Clu.iLt_f (Int.ofNat_le.2 c3)) _ _)).trans (Clu.needT_eq (Clu.inR_nat (k := .i64) n4) _ _)).trans (Clu.needT_eq (Clu.inR_nat (k := .i64) n5) _ _)).trans (Clu.forkB_t (Clu.iLt_t (Int.ofNat_lt.2 c4)) _ _)).trans (Clu.needT_eq (hos _) _ _)).trans (Clu.needT_eq (hos _) _ _)).trans (Clu.needT_eq (hos _) _ _)).trans (Clu.needT_eq (hos _) _ _)) rfl rfl rfl (by decide) rfl (by simp [Clu.Blk.und, Clu.AV.und, Clu.AV.unds, Clu.flts_unds hu]) rfl (Clu.newH_ro rfl) (by simp [Clu.AV.und, Clu.AV.unds, Clu.AV.cells, Clu.unds_splice, Clu.flts_unds hu])
set_option linter.unusedVariables false in
theorem labB_4 (n N at_ k : Nat) (cs : List Clu.AV) (os : Nat → Option Clu.AV) (hos : ∀ t, Clu.flatB (os t) = true) (hu : Clu.AV.flts cs = true) (c1 : at_ < n) (n1 : at_ < n := by omega) (c2 : (Clu.byteN N at_) ≠ 0) (n2 : at_ < n := by omega) (n3 : (Clu.byteN N at_) < 9223372036854775808 := by omega) (c3 : 63 < (Clu.byteN N at_)) : ∃ os' : Nat → Option Clu.AV, (∀ t, Clu.flatB (os' t) = true) ∧ Clu.RunE Try.prog 50 (Clu.loopNo Try.f12 0) 58 1000 (Clu.mkFr 58 (Clu.std [0, 4, 5] [.s n N, .so 1000 0 1 k, .i .i64 (.ofNat at_)] [3, 10, 11, 15, 16, 22, 23, 30, 31, 51, 52, 55, 56] os)) (Clu.mkH .e ([(1000, .c cs 0 1 (some 9))] ++ (Clu.layB []))) 1001 (Clu.exOf 1) (Clu.mkFr 58 (Clu.std [2, 3] [Clu.AV.sn, (Clu.AV.b false)] [3, 10, 11, 15, 16, 22, 23, 30, 31, 51, 52, 55, 56] os')) (Clu.mkH .e ([(1000, .c cs 0 1 (some 9))] ++ (Clu.layB []))) 1001 :=
  Clu.segM (vs := [Clu.AV.sn, (Clu.AV.b false)]) (cs := [cs]) 1 1 [2, 3] [(1000, 0, 1, (some 9))] (Clu.evL_ok Clu.plain (Clu.noX_ok) (Clu.drK_ok Clu.mixed) (Clu.noL_ok) 50) (Clu.layB_bs rfl (by decide) (by decide)) hos ((((((((((((labB_raw n N at_ k cs os)).trans (Clu.forkB_t (Clu.iLt_t (Int.ofNat_lt.2 c1)) _ _)).trans (Clu.needT_eq (Clu.blt_iff.2 n1) _ _)).trans (Clu.forkB_t (congrArg not (Clu.iEq_f (fun hh => c2 (Int.ofNat.inj hh)))) _ _)).trans (Clu.needT_eq (Clu.blt_iff.2 n2) _ _)).trans (Clu.needT_eq (Clu.inR_nat (k := .i64) n3) _ _)).trans (Clu.forkB_t (Clu.iLt_t (Int.ofNat_lt.2 c3)) _ _)).trans (Clu.needT_eq (hos _) _ _)).trans (Clu.needT_eq (hos _) _ _)).trans (Clu.needT_eq (hos _) _ _)).trans (Clu.needT_eq (hos _) _ _)) rfl rfl rfl (by decide) rfl (by simp [Clu.Blk.und, Clu.AV.und, Clu.AV.unds, Clu.flts_unds hu]) rfl (Clu.newH_ro rfl) (by simp [Clu.AV.und, Clu.AV.unds, Clu.AV.cells, Clu.unds_splice, Clu.flts_unds hu])
set_option maxRecDepth 10000000 in
theorem labF_raw (n N e k : Nat) (bad emp : Bool) (cs : List Clu.AV) : (Clu.runV (Clu.addL (Clu.noL) (Clu.loopNo Try.f12 0) 3 (Clu.loopM [3000022, 3000032, 3000046, 3000062, 3000104, 3000112] Try.prog (Clu.loopNo Try.f12 0) [0, 4, 5] [3, 10, 11, 15, 16, 22, 23, 30, 31, 51, 52, 55, 56] [] [] (fun _ _ _ => .fork bad (.fork emp (.leaf (2, [0, 4, 5], [.s n N, .so 1000 0 1 k, .i .i64 (.ofNat e)], [(1000, .c cs 0 1 (some 9))], 1003)) (.leaf (2, [0, 4, 5], [.s n N, .sn, .i .i64 (.ofNat e)], [], 1003))) (.leaf (1, [2, 3], [.sn, .b false], [], 1003))))) Try.prog (Clu.tell (Clu.noX) 12 300011230001043000062300004630000323000022) ((n + 1000)) 1000 12 [.s n N] (Clu.mkH .e (Clu.argB (Clu.rowsAt 1000 []) ++ Clu.layB [])) 1000 [[(1000, 0, 1, (some 9))], []]) = Clu.needP ((Clu.loopNo Try.f12 0) = (Clu.loopNo Try.f12 0)) (fun _ => .err 91 0) (fun h600 => Clu.forkB (bad) (Clu.forkB (emp) (Clu.needP (Clu.LoopQ (Try.prog) ((Clu.loopNo Try.f12 0)) ((n + 995)) (58) (1000) ([]) (1000) (2) ([0, 4, 5]) ([(Clu.AV.s n N), Clu.AV.sn, (Clu.AV.i IntKind.i64 (Int.ofNat 0))]) ([3, 10, 11, 15, 16, 22, 23, 30, 31, 51, 52, 55, 56]) ([0, 4, 5]) ([(Clu.AV.s n N), (Clu.AV.so 1000 0 1 k), (Clu.AV.i IntKind.i64 (Int.ofNat e))]) ([(1000, (Clu.Blk.c cs 0 1 (Option.some 9)))]) (1003)) (fun _ => .err 93 1) (fun h597 => Clu.needT ((Clu.inR IntKind.i64 ((Int.ofNat n) - (Int.ofNat 1)))) (.err 10 20) (Clu.forkB ((Bool.not (Clu.iEq (Int.ofNat e) ((Int.ofNat n) - (Int.ofNat 1))))) (Clu.forkB ((Clu.iLt (Int.ofNat 255) (Int.ofNat n))) ((Clu.Out.ok (Clu.AV.tu [(Clu.AV.i IntKind.i64 (Int.ofNat 0)), (Clu.AV.tu [(Clu.AV.so 1000 0 1 k), (Clu.AV.b true)]), (Clu.AV.ag cs)]))) ((Clu.Out.ok (Clu.AV.tu [(Clu.AV.i IntKind.i64 (Int.ofNat 1)), (Clu.AV.tu [Clu.AV.sn, (Clu.AV.b false)])])))) ((Clu.Out.ok (Clu.AV.tu [(Clu.AV.i IntKind.i64 (Int.ofNat 1)), (Clu.AV.tu [Clu.AV.sn, (Clu.AV.b false)])])))))) (Clu.needP (Clu.LoopQ (Try.prog) ((Clu.loopNo Try.f12 0)) ((n + 995)) (58) (1000) ([]) (1000) (2) ([0, 4, 5]) ([(Clu.AV.s n N), Clu.AV.sn, (Clu.AV.i IntKind.i64 (Int.ofNat 0))]) ([3, 10, 11, 15, 16, 22, 23, 30, 31, 51, 52, 55, 56]) ([0, 4, 5]) ([(Clu.AV.s n N), Clu.AV.sn, (Clu.AV.i IntKind.i64 (Int.ofNat e))]) ([]) (1003)) (fun _ => .err 93 1) (fun h597 => Clu.needT ((Clu.inR IntKind.i64 ((Int.ofNat n) - (Int.ofNat 1)))) (.err 10 20) (Clu.forkB ((Bool.not (Clu.iEq (Int.ofNat e) ((Int.ofNat n) - (Int.ofNat 1))))) (Clu.forkB ((Clu.iLt (Int.ofNat 255) (Int.ofNat n))) ((Clu.Out.ok (Clu.AV.tu [(Clu.AV.i IntKind.i64 (Int.ofNat 1)), (Clu.AV.tu [Clu.AV.sn, (Clu.AV.b true)])]))) ((Clu.Out.ok (Clu.AV.tu [(Clu.AV.i IntKind.i64 (Int.ofNat 1)), (Clu.AV.tu [Clu.AV.sn, (Clu.AV.b false)])])))) ((Clu.Out.ok (Clu.AV.tu [(Clu.AV.i IntKind.i64 (Int.ofNat 1)), (Clu.AV.tu [Clu.AV.sn, (Clu.AV.b false)])]))))))) (Clu.needP (Clu.LoopQ (Try.prog) ((Clu.loopNo Try.f12 0)) ((n + 995)) (58) (1000) ([]) (1000) (1) ([0, 4, 5]) ([(Clu.AV.s n N), Clu.AV.sn, (Clu.AV.i IntKind.i64 (Int.ofNat 0))]) ([3, 10, 11, 15, 16, 22, 23, 30, 31, 51, 52, 55, 56]) ([2, 3]) ([Clu.AV.sn, (Clu.AV.b false)]) ([]) (1003)) (fun _ => .err 93 1) (fun h598 => (Clu.Out.ok (Clu.AV.tu [(Clu.AV.i IntKind.i64 (Int.ofNat 1)), (Clu.AV.tu [Clu.AV.sn, (Clu.AV.b false)])]))))) := by kernel_rfl
set_option linter.unusedVariables false in
theorem labF_0 (n N e k : Nat) (bad emp : Bool) (cs : List Clu.AV) (hu : Clu.AV.flts cs = true) (c1 : bad = false) (c2 : emp = false) (p_h597 : Clu.LoopQ (Try.prog) ((Clu.loopNo Try.f12 0)) ((n + 995)) (58) (1000) ([]) (1000) (2) ([0, 4, 5]) ([(Clu.AV.s n N), Clu.AV.sn, (Clu.AV.i IntKind.i64 (Int.ofNat 0))]) ([3, 10, 11, 15, 16, 22, 23, 30, 31, 51, 52, 55, 56]) ([0, 4, 5]) ([(Clu.AV.s n N), (Clu.AV.so 1000 0 1 k), (Clu.AV.i IntKind.i64 (Int.ofNat e))]) ([(1000, (Clu.Blk.c cs 0 1 (Option.some 9)))]) (1003)) (n1 : -9223372036854775808 ≤ (((n : Nat) : Int) - ((1 : Nat) : Int)) ∧ (((n : Nat) : Int) - ((1 : Nat) : Int)) < 9223372036854775808 := by omega) (c3 : ((e : Nat) : Int) = (((n : Nat) : Int) - ((1 : Nat) : Int))) (c4 : n ≤ 255) : Clu.RowOK Try.prog 12 [] [.s n N] [] (Clu.AV.tu [(Clu.AV.so 1000 0 1 k), (Clu.AV.b true)]) [(cs, 1, (some 9))] :=
  ⟨by simp, (by simp [hu]), (fun x h => by cases h), Clu.con_new (v := (Clu.AV.tu [(Clu.AV.so 1000 0 1 k), (Clu.AV.b true)])) (cs := [cs]) (alts := [[(1000, 0, 1, (some 9))], []]) (gl := Clu.argB (Clu.rowsAt 1000 []) ++ Clu.layB []) Clu.plain (Clu.tell_ok (Clu.noX_ok)) (Clu.drK_ok Clu.mixed) (Clu.addL_ok (Clu.noL_ok) Clu.loopM_ok) 0 [(1000, 0, 1, (some 9))] (Clu.AV.tu [(Clu.AV.so 1000 0 1 k), (Clu.AV.b true)]) (((((((((labF_raw n N e k bad emp cs)).trans (Clu.needP_eq rfl _ _)).trans (Clu.forkB_f (c1) _ _)).trans (Clu.forkB_f (c2) _ _)).trans (Clu.needP_eq p_h597 _ _)).trans (Clu.needT_eq (Clu.inR_int (k := .i64) (half := 9223372036854775808) rfl n1) _ _)).trans (Clu.forkB_f (congrArg not (Clu.iEq_t c3)) _ _)).trans (Clu.forkB_f (Clu.iLt_f (Int.ofNat_le.2 c4)) _ _)) rfl (Clu.argB_bs rfl (by simp [Clu.rowsAt]) (by decide) (by decide)) (by decide) rfl rfl rfl (fun x h => by cases h) (by simp [hu]) rfl (by decide) (by simp)⟩
set_option linter.unusedVariables false in
theorem labF_1 (n N e k : Nat) (bad emp : Bool) (cs : List Clu.AV) (hu : Clu.AV.flts cs = true) (c1 : bad = false) (c2 : emp = false) (p_h597 : Clu.LoopQ (Try.prog) ((Clu.loopNo Try.f12 0)) ((n + 995)) (58) (1000) ([]) (1000) (2) ([0, 4, 5]) ([(Clu.AV.s n N), Clu.AV.sn, (Clu.AV.i IntKind.i64 (Int.ofNat 0))]) ([3, 10, 11, 15, 16, 22, 23, 30, 31, 51, 52, 55, 56]) ([0, 4, 5]) ([(Clu.AV.s n N), (Clu.AV.so 1000 0 1 k), (Clu.AV.i IntKind.i64 (Int.ofNat e))]) ([(1000, (Clu.Blk.c cs 0 1 (Option.some 9)))]) (1003)) (n1 : -9223372036854775808 ≤ (((n : Nat) : Int) - ((1 : Nat) : Int)) ∧ (((n : Nat) : Int) - ((1 : Nat) : Int)) < 9223372036854775808 := by omega) (c3 : ((e : Nat) : Int) = (((n : Nat) : Int) - ((1 : Nat) : Int))) (c4 : 255 < n) : Clu.RowOK Try.prog 12 [] [.s n N] [] (Clu.AV.tu [Clu.AV.sn, (Clu.AV.b false)]) [] :=
  ⟨by simp, (by simp [hu]), (fun x h => by cases h), Clu.con_new (v := (Clu.AV.tu [Clu.AV.sn, (Clu.AV.b false)])) (cs := []) (alts := [[(1000, 0, 1, (some 9))], []]) (gl := Clu.argB (Clu.rowsAt 1000 []) ++ Clu.layB []) Clu.plain (Clu.tell_ok (Clu.noX_ok)) (Clu.drK_ok Clu.mixed) (Clu.addL_ok (Clu.noL_ok) Clu.loopM_ok) 1 [] (Clu.AV.tu [Clu.AV.sn, (Clu.AV.b false)]) (((((((((labF_raw n N e k bad emp cs)).trans (Clu.needP_eq rfl _ _)).trans (Clu.forkB_f (c1) _ _)).trans (Clu.forkB_f (c2) _ _)).trans (Clu.needP_eq p_h597 _ _)).trans (Clu.needT_eq (Clu.inR_int (k := .i64) (half := 9223372036854775808) rfl n1) _ _)).trans (Clu.forkB_f (congrArg not (Clu.iEq_t c3)) _ _)).trans (Clu.forkB_t (Clu.iLt_t (Int.ofNat_lt.2 c4)) _ _)) rfl (Clu.argB_bs rfl (by simp [Clu.rowsAt]) (by decide) (by decide)) (by decide) rfl rfl rfl (fun x h => by cases h) (by simp [hu]) rfl (by decide) (by simp)⟩
set_option linter.unusedVariables false in
theorem labF_2 (n N e k : Nat) (bad emp : Bool) (cs : List Clu.AV) (hu : Clu.AV.flts cs = true) (c1 : bad = false) (c2 : emp = false) (p_h597 : Clu.LoopQ (Try.prog) ((Clu.loopNo Try.f12 0)) ((n + 995)) (58) (1000) ([]) (1000) (2) ([0, 4, 5]) ([(Clu.AV.s n N), Clu.AV.sn, (Clu.AV.i IntKind.i64 (Int.ofNat 0))]) ([3, 10, 11, 15, 16, 22, 23, 30, 31, 51, 52, 55, 56]) ([0, 4, 5]) ([(Clu.AV.s n N), (Clu.AV.so 1000 0 1 k), (Clu.AV.i IntKind.i64 (Int.ofNat e))]) ([(1000, (Clu.Blk.c cs 0 1 (Option.some 9)))]) (1003)) (n1 : -9223372036854775808 ≤ (((n : Nat) : Int) - ((1 : Nat) : Int)) ∧ (((n : Nat) : Int) - ((1 : Nat) : Int)) < 9223372036854775808 := by omega) (c3 : ((e : Nat) : Int) ≠ (((n : Nat) : Int) - ((1 : Nat) : Int))) : Clu.RowOK Try.prog 12 [] [.s n N] [] (Clu.AV.tu [Clu.AV.sn, (Clu.AV.b false)]) [] :=
  ⟨by simp, (by simp [hu]), (fun x h => by cases h), Clu.con_new (v := (Clu.AV.tu [Clu.AV.sn, (Clu.AV.b false)])) (cs := []) (alts := [[(1000, 0, 1, (some 9))], []]) (gl := Clu.argB (Clu.rowsAt 1000 []) ++ Clu.layB []) Clu.plain (Clu.tell_ok (Clu.noX_ok)) (Clu.drK_ok Clu.mixed) (Clu.addL_ok (Clu.noL_ok) Clu.loopM_ok) 1 [] (Clu.AV.tu [Clu.AV.sn, (Clu.AV.b false)]) ((((((((labF_raw n N e k bad emp cs)).trans (Clu.needP_eq rfl _ _)).trans (Clu.forkB_f (c1) _ _)).trans (Clu.forkB_f (c2) _ _)).trans (Clu.needP_eq p_h597 _ _)).trans (Clu.needT_eq (Clu.inR_int (k := .i64) (half := 9223372036854775808) rfl n1) _ _)).trans (Clu.forkB_t (congrArg not (Clu.iEq_f c3)) _ _)) rfl (Clu.argB_bs rfl (by simp [Clu.rowsAt]) (by decide) (by decide)) (by decide) rfl rfl rfl (fun x h => by cases h) (by simp [hu]) rfl (by decide) (by simp)⟩
set_option linter.unusedVariables false in
theorem labF_3 (n N e k : Nat) (bad emp : Bool) (cs : List Clu.AV) (hu : Clu.AV.flts cs = true) (c1 : bad = false) (c2 : emp = true) (p_h597 : Clu.LoopQ (Try.prog) ((Clu.loopNo Try.f12 0)) ((n + 995)) (58) (1000) ([]) (1000) (2) ([0, 4, 5]) ([(Clu.AV.s n N), Clu.AV.sn, (Clu.AV.i IntKind.i64 (Int.ofNat 0))]) ([3, 10, 11, 15, 16, 22, 23, 30, 31, 51, 52, 55, 56]) ([0, 4, 5]) ([(Clu.AV.s n N), Clu.AV.sn, (Clu.AV.i IntKind.i64 (Int.ofNat e))]) ([]) (1003)) (n1 : -9223372036854775808 ≤ (((n : Nat) : Int) - ((1 : Nat) : Int)) ∧ (((n : Nat) : Int) - ((1 : Nat) : Int)) < 9223372036854775808 := by omega) (c3 : ((e : Nat) : Int) = (((n : Nat) : Int) - ((1 : Nat) : Int))) (c4 : n ≤ 255) : Clu.RowOK Try.prog 12 [] [.s n N] [] (Clu.AV.tu [Clu.AV.sn, (Clu.AV.b true)]) [] :=
  ⟨by simp, (by simp [hu]), (fun x h => by cases h), Clu.con_new (v := (Clu.AV.tu [Clu.AV.sn, (Clu.AV.b true)])) (cs := []) (alts := [[(1000, 0, 1, (some 9))], []]) (gl := Clu.argB (Clu.rowsAt 1000 []) ++ Clu.layB []) Clu.plain (Clu.tell_ok (Clu.noX_ok)) (Clu.drK_ok Clu.mixed) (Clu.addL_ok (Clu.noL_ok) Clu.loopM_ok) 1 [] (Clu.AV.tu [Clu.AV.sn, (Clu.AV.b true)]) (((((((((labF_raw n N e k bad emp cs)).trans (Clu.needP_eq rfl _ _)).trans (Clu.forkB_f (c1) _ _)).trans (Clu.forkB_t (c2) _ _)).trans (Clu.needP_eq p_h597 _ _)).trans (Clu.needT_eq (Clu.inR_int (k := .i64) (half := 9223372036854775808) rfl n1) _ _)).trans (Clu.forkB_f (congrArg not (Clu.iEq_t c3)) _ _)).trans (Clu.forkB_f (Clu.iLt_f (Int.ofNat_le.2 c4)) _ _)) rfl (Clu.argB_bs rfl (by simp [Clu.rowsAt]) (by decide) (by decide)) (by decide) rfl rfl rfl (fun x h => by cases h) (by simp [hu]) rfl (by decide) (by simp)⟩
set_option linter.unusedVariables false in
theorem labF_5 (n N e k : Nat) (bad emp : Bool) (cs : List Clu.AV) (hu : Clu.AV.flts cs = true) (c1 : bad = false) (c2 : emp = true) (p_h597 : Clu.LoopQ (Try.prog) ((Clu.loopNo Try.f12 0)) ((n + 995)) (58) (1000) ([]) (1000) (2) ([0, 4, 5]) ([(Clu.AV.s n N), Clu.AV.sn, (Clu.AV.i IntKind.i64 (Int.ofNat 0))]) ([3, 10, 11, 15, 16, 22, 23, 30, 31, 51, 52, 55, 56]) ([0, 4, 5]) ([(Clu.AV.s n N), Clu.AV.sn, (Clu.AV.i IntKind.i64 (Int.ofNat e))]) ([]) (1003)) (n1 : -9223372036854775808 ≤ (((n : Nat) : Int) - ((1 : Nat) : Int)) ∧ (((n : Nat) : Int) - ((1 : Nat) : Int)) < 9223372036854775808 := by omega) (c3 : ((e : Nat) : Int) ≠ (((n : Nat) : Int) - ((1 : Nat) : Int))) : Clu.RowOK Try.prog 12 [] [.s n N] [] (Clu.AV.tu [Clu.AV.sn, (Clu.AV.b false)]) [] :=
  ⟨by simp, (by simp [hu]), (fun x h => by cases h), Clu.con_new (v := (Clu.AV.tu [Clu.AV.sn, (Clu.AV.b false)])) (cs := []) (alts := [[(1000, 0, 1, (some 9))], []]) (gl := Clu.argB (Clu.rowsAt 1000 []) ++ Clu.layB []) Clu.plain (Clu.tell_ok (Clu.noX_ok)) (Clu.drK_ok Clu.mixed) (Clu.addL_ok (Clu.noL_ok) Clu.loopM_ok) 1 [] (Clu.AV.tu [Clu.AV.sn, (Clu.AV.b false)]) ((((((((labF_raw n N e k bad emp cs)).trans (Clu.needP_eq rfl _ _)).trans (Clu.forkB_f (c1) _ _)).trans (Clu.forkB_t (c2) _ _)).trans (Clu.needP_eq p_h597 _ _)).trans (Clu.needT_eq (Clu.inR_int (k := .i64) (half := 9223372036854775808) rfl n1) _ _)).trans (Clu.forkB_t (congrArg not (Clu.iEq_f c3)) _ _)) rfl (Clu.argB_bs rfl (by simp [Clu.rowsAt]) (by decide) (by decide)) (by decide) rfl rfl rfl (fun x h => by cases h) (by simp [hu]) rfl (by decide) (by simp)⟩
set_option linter.unusedVariables false in
theorem labF_6 (n N e k : Nat) (bad emp : Bool) (cs : List Clu.AV) (hu : Clu.AV.flts cs = true) (c1 : bad = true) (p_h598 : Clu.LoopQ (Try.prog) ((Clu.loopNo Try.f12 0)) ((n + 995)) (58) (1000) ([]) (1000) (1) ([0, 4, 5]) ([(Clu.AV.s n N), Clu.AV.sn, (Clu.AV.i IntKind.i64 (Int.ofNat 0))]) ([3, 10, 11, 15, 16, 22, 23, 30, 31, 51, 52, 55, 56]) ([2, 3]) ([Clu.AV.sn, (Clu.AV.b false)]) ([]) (1003)) : Clu.RowOK Try.prog 12 [] [.s n N] [] (Clu.AV.tu [Clu.AV.sn, (Clu.AV.b false)]) [] :=
  ⟨by simp, (by simp [hu]), (fun x h => by cases h), Clu.con_new (v := (Clu.AV.tu [Clu.AV.sn, (Clu.AV.b false)])) (cs := []) (alts := [[(1000, 0, 1, (some 9))], []]) (gl := Clu.argB (Clu.rowsAt 1000 []) ++ Clu.layB []) Clu.plain (Clu.tell_ok (Clu.noX_ok)) (Clu.drK_ok Clu.mixed) (Clu.addL_ok (Clu.noL_ok) Clu.loopM_ok) 1 [] (Clu.AV.tu [Clu.AV.sn, (Clu.AV.b false)]) (((((labF_raw n N e k bad emp cs)).trans (Clu.needP_eq rfl _ _)).trans (Clu.forkB_t (c1) _ _)).trans (Clu.needP_eq p_h598 _ _)) rfl (Clu.argB_bs rfl (by simp [Clu.rowsAt]) (by decide) (by decide)) (by decide) rfl rfl rfl (fun x h => by cases h) (by simp [hu]) rfl (by decide) (by simp)⟩
/-- what the document's reading of labels gives: the labels and where they end; none, where it stops -/
def rGo (l : List Nat) : Nat → Nat → Option (List (List Nat) × Nat)
  | 0, _ => none
  | f + 1, at_ => if at_ < l.length ∧ l.getD at_ 0 ≠ 0 then (if 63 < l.getD at_ 0 ∨ l.length < at_ + 1 + l.getD at_ 0 then none else (rGo l f (at_ + 1 + l.getD at_ 0)).map fun x => ((l.drop (at_ + 1)).take (l.getD at_ 0) :: x.1, x.2)) else some ([], at_)
theorem rGo_labs (l : List Nat) : ∀ (f at_ : Nat), l.length < at_ + f → match rGo l f at_ with
    | none => labs (l.drop at_) = none
    | some x => labs (l.drop at_) = if x.2 + 1 = l.length then some x.1 else none
  | 0, at_, hf => by
    show labs (l.drop at_) = none
    rw [List.drop_eq_nil_of_le (by omega), labs_nil]
  | f + 1, at_, hf => by
    unfold rGo
    by_cases h : at_ < l.length
    · rw [getD_drop h]
      by_cases h0 : l.getD at_ 0 = 0
      · rw [if_neg (fun k => k.2 h0), h0, labs_zero]
        show (if l.drop (at_ + 1) = [] then some [] else none) = if at_ + 1 = l.length then some [] else none
        by_cases hd : at_ + 1 = l.length
        · rw [if_pos hd, if_pos (List.drop_eq_nil_of_le (by omega))]
        · rw [if_neg hd, if_neg (fun k => by rw [List.drop_eq_nil_iff] at k; omega)]
      · rw [if_pos ⟨h, h0⟩, labs_cons h0]
        by_cases hb : 63 < l.getD at_ 0 ∨ l.length < at_ + 1 + l.getD at_ 0
        · rw [if_pos hb, if_neg (fun k => by rw [List.length_drop] at k; omega)]
        · rw [if_neg hb, if_pos ⟨by omega, by rw [List.length_drop]; omega⟩]
          have ih := rGo_labs l f (at_ + 1 + l.getD at_ 0) (by omega)
          have e : (l.drop (at_ + 1)).drop (l.getD at_ 0) = l.drop (at_ + 1 + l.getD at_ 0) := List.drop_drop ..
          rw [e]
          cases hm : rGo l f (at_ + 1 + l.getD at_ 0) with
          | none => rw [hm] at ih; simp only at ih; rw [ih]; rfl
          | some x =>
            rw [hm] at ih
            simp only at ih
            rw [ih]
            show Option.map _ (if x.2 + 1 = l.length then some x.1 else none) = if x.2 + 1 = l.length then some _ else none
            split <;> rfl
    · rw [if_neg (fun k => h k.1), List.drop_eq_nil_of_le (by omega), labs_nil]
      show none = if at_ + 1 = l.length then some [] else none
      rw [if_neg (by omega)]
theorem seg_cell {l : List Nat} {a c : Nat} (h : a + c ≤ l.length) : Clu.AV.s (a + c - a) (Clu.maskN (a + c - a) (Nat.shiftRight (Clu.pk l) (8 * a))) = .s ((l.drop a).take c).length (Clu.pk ((l.drop a).take c)) := by
  rw [Clu.pk_part, Nat.add_sub_cancel_left, List.length_take, List.length_drop, Nat.min_eq_left (by omega)]
def LbR (l : List Nat) (A : List (List Nat)) (at_ fuel ec : Nat) (ts : List Nat) (vs : List Clu.AV) (bl : List (Nat × Clu.Blk)) (nx : Nat) : Prop := Clu.LoopR Try.prog (Clu.loopNo Try.f12 0) fuel 58 1000 1000 ([(1000, .c (Clu.S1 A) 0 1 (some 9))] ++ Clu.layB []) 1001 ec [0, 4, 5] [.s l.length (Clu.pk l), .so 1000 0 1 A.length, .i .i64 (.ofNat at_)] [3, 10, 11, 15, 16, 22, 23, 30, 31, 51, 52, 55, 56] ts vs (bl ++ Clu.layB []) nx 1003
theorem rB_more {l : List Nat} (hB : Clu.B8 l) (hn : l.length ≤ 1000000) {A : List (List Nat)} {f at_ ec nx : Nat} {ts : List Nat} {vs : List Clu.AV} {bl : List (Nat × Clu.Blk)} (hA : A.length ≤ at_) (h1 : at_ < l.length) (h2 : l.getD at_ 0 ≠ 0) (h3 : ¬(63 < l.getD at_ 0 ∨ l.length < at_ + 1 + l.getD at_ 0)) (K : LbR l (A ++ [(l.drop (at_ + 1)).take (l.getD at_ 0)]) (at_ + 1 + l.getD at_ 0) (51 + f) ec ts vs bl nx) : LbR l A at_ (51 + (f + 1)) ec ts vs bl nx := by
  have hb := Clu.byteN_pk hB at_
  unfold LbR at *
  refine Clu.LoopR.app (nx1 := 1003) (c1 := Clu.S1 (A ++ [(l.drop (at_ + 1)).take (l.getD at_ 0)])) (vs1 := [.s l.length (Clu.pk l), .so 1002 0 1 (A.length + 1), .i .i64 (.ofNat (at_ + 1 + l.getD at_ 0))]) 2 (show 50 ≤ 51 + f by omega) (fun os ho => ?_) (by omega) (by omega) (by omega) (by omega) ?_ rfl (fun x hx => by cases hx) (Clu.S1_flts _) K
  · have hs := Clu.S1_length A
    have := labB_2 l.length (Clu.pk l) at_ A.length (Clu.S1 A) os ho (Clu.S1_flts _) h1 (c2 := by omega) (c3 := by omega) (c4 := by omega) (c5 := by omega)
    rw [hb, seg_cell (by omega), Clu.S1_app] at this
    exact this
  · rw [List.length_append]
    rfl
theorem rB_A {l : List Nat} (hB : Clu.B8 l) (hn : l.length ≤ 1000000) {L : List (List Nat)} {e : Nat} : ∀ (f at_ : Nat) (A M : List (List Nat)), A.length ≤ at_ → rGo l f at_ = some (M, e) → L = A ++ M → LbR l A at_ (51 + f) 2 [0, 4, 5] [.s l.length (Clu.pk l), .so 1000 0 1 L.length, .i .i64 (.ofNat e)] [(1000, .c (Clu.S1 L) 0 1 (some 9))] 1001
  | 0, at_, A, M, hA, hg, hL => by cases hg
  | f + 1, at_, A, M, hA, hg, hL => by
    have hb := Clu.byteN_pk hB at_
    unfold rGo at hg
    split at hg
    · rename_i hc
      split at hg
      · cases hg
      · rename_i h3
        obtain ⟨x, hx, he⟩ := Option.map_eq_some_iff.1 hg
        obtain ⟨rfl, rfl⟩ : _ ∧ _ := Prod.mk.inj he
        exact rB_more hB hn hA hc.1 hc.2 h3 (rB_A hB hn f _ _ x.1 (by rw [List.length_append]; simp only [List.length_cons, List.length_nil]; omega) hx (by rw [hL, List.append_assoc]; rfl))
    · rename_i hc
      obtain ⟨rfl, rfl⟩ : _ ∧ _ := Prod.mk.inj (Option.some.inj hg)
      rw [List.append_nil] at hL
      subst hL
      by_cases h1 : at_ < l.length
      · have h2 : l.getD at_ 0 = 0 := by
          by_cases h0 : l.getD at_ 0 = 0
          · exact h0
          · exact absurd ⟨h1, h0⟩ hc
        exact Clu.LoopR.out (n := 50) (by simp [Clu.exOf]) (by omega) (by omega) (by omega) fun os ho => labB_1 _ _ at_ _ _ os ho (Clu.S1_flts _) h1 (c2 := by omega)
      · exact Clu.LoopR.out (n := 50) (by simp [Clu.exOf]) (by omega) (by omega) (by omega) fun os ho => labB_0 _ _ at_ _ _ os ho (Clu.S1_flts _) (by omega)
theorem rB_B {l : List Nat} (hB : Clu.B8 l) (hn : l.length ≤ 1000000) : ∀ (f at_ : Nat) (A : List (List Nat)), A.length ≤ at_ → at_ ≤ l.length → l.length < at_ + f → rGo l f at_ = none → ∃ L : List (List Nat), LbR l A at_ (51 + f) 1 [2, 3] [.sn, .b false] [(1000, .c (Clu.S1 L) 0 1 (some 9))] 1001
  | 0, at_, A, hA, hle, hf, hg => ⟨A, Clu.LoopR.out (n := 50) (by simp [Clu.exOf]) (by omega) (by omega) (by omega) fun os ho => absurd hf (by omega)⟩
  | f + 1, at_, A, hA, hle, hf, hg => by
    have hb := Clu.byteN_pk hB at_
    unfold rGo at hg
    split at hg
    · rename_i hc
      split at hg
      · rename_i h3
        have h8 := hB.getD at_
        by_cases h63 : 63 < l.getD at_ 0
        · exact ⟨A, Clu.LoopR.out (n := 50) (by simp [Clu.exOf]) (by omega) (by omega) (by omega) fun os ho => labB_4 _ _ at_ _ _ os ho (Clu.S1_flts _) hc.1 (c2 := by omega) (c3 := by omega)⟩
        · exact ⟨A, Clu.LoopR.out (n := 50) (by simp [Clu.exOf]) (by omega) (by omega) (by omega) fun os ho => labB_3 _ _ at_ _ _ os ho (Clu.S1_flts _) hc.1 (c2 := by omega) (c3 := by omega) (c4 := by omega)⟩
      · rename_i h3
        obtain ⟨L, K⟩ := rB_B hB hn f _ (A ++ [(l.drop (at_ + 1)).take (l.getD at_ 0)]) (by rw [List.length_append]; simp only [List.length_cons, List.length_nil]; omega) (by omega) (by omega) (Option.map_eq_none_iff.1 hg)
        exact ⟨L, rB_more hB hn hA hc.1 hc.2 h3 K⟩
    · cases hg
def LaR (l : List Nat) (fuel ec : Nat) (ts : List Nat) (vs : List Clu.AV) (bl : List (Nat × Clu.Blk)) (nx : Nat) : Prop := Clu.LoopR Try.prog (Clu.loopNo Try.f12 0) fuel 58 1000 1000 ([] ++ Clu.layB []) 1000 ec [0, 4, 5] [.s l.length (Clu.pk l), .sn, .i .i64 (.ofNat 0)] [3, 10, 11, 15, 16, 22, 23, 30, 31, 51, 52, 55, 56] ts vs (bl ++ Clu.layB []) nx 1003
theorem rA_more {l : List Nat} (hB : Clu.B8 l) (hn : l.length ≤ 1000000) {f ec nx : Nat} {ts : List Nat} {vs : List Clu.AV} {bl : List (Nat × Clu.Blk)} (h1 : 0 < l.length) (h2 : l.getD 0 0 ≠ 0) (h3 : ¬(63 < l.getD 0 0 ∨ l.length < 0 + 1 + l.getD 0 0)) (K : LbR l [(l.drop (0 + 1)).take (l.getD 0 0)] (0 + 1 + l.getD 0 0) (51 + f) ec ts vs bl nx) : LaR l (51 + (f + 1)) ec ts vs bl nx := by
  have hb := Clu.byteN_pk hB 0
  unfold LbR at K
  unfold LaR
  refine Clu.LoopR.app (nx1 := 1002) (c1 := Clu.S1 [(l.drop (0 + 1)).take (l.getD 0 0)]) (vs1 := [.s l.length (Clu.pk l), .so 1001 0 1 1, .i .i64 (.ofNat (0 + 1 + l.getD 0 0))]) 1 (show 50 ≤ 51 + f by omega) (fun os ho => ?_) (by omega) (by omega) (by omega) (by omega) rfl rfl (fun x hx => by cases hx) (Clu.S1_flts _) K
  have := labA_2 l.length (Clu.pk l) 0 os ho h1 (c2 := by omega) (c3 := by omega) (c4 := by omega)
  rw [hb, seg_cell (by omega)] at this
  exact this
/-- all the labels -/
theorem rLabs_A {l : List Nat} (hB : Clu.B8 l) (hn : l.length ≤ 1000000) {f e : Nat} {L : List (List Nat)} (hL : L ≠ []) (hg : rGo l (f + 1) 0 = some (L, e)) : Clu.LoopQ Try.prog (Clu.loopNo Try.f12 0) (51 + (f + 1)) 58 1000 ([] ++ Clu.layB []) 1000 2 [0, 4, 5] [.s l.length (Clu.pk l), .sn, .i .i64 (.ofNat 0)] [3, 10, 11, 15, 16, 22, 23, 30, 31, 51, 52, 55, 56] [0, 4, 5] [.s l.length (Clu.pk l), .so 1000 0 1 L.length, .i .i64 (.ofNat e)] ([(1000, .c (Clu.S1 L) 0 1 (some 9))] ++ Clu.layB []) 1003 := by
  unfold rGo at hg
  split at hg
  · rename_i hc
    split at hg
    · cases hg
    · rename_i h3
      obtain ⟨x, hx, he⟩ := Option.map_eq_some_iff.1 hg
      obtain ⟨e1, e2⟩ : _ ∧ _ := Prod.mk.inj he
      have K := rB_A hB hn f _ [(l.drop (0 + 1)).take (l.getD 0 0)] x.1 (by simp only [List.length_cons, List.length_nil]; omega) hx (L := L) e1.symm
      rw [e2] at K
      exact (rA_more hB hn hc.1 hc.2 h3 K).come (by omega) (by omega) (fun x hx => by cases hx) (Clu.S1_flts _) rfl
  · exact absurd (Prod.mk.inj (Option.some.inj hg)).1.symm hL
theorem rLabs_0 {l : List Nat} (hB : Clu.B8 l) (hn : l.length ≤ 1000000) {f e : Nat} (hg : rGo l (f + 1) 0 = some ([], e)) : e = 0 ∧ Clu.LoopQ Try.prog (Clu.loopNo Try.f12 0) (51 + (f + 1)) 58 1000 ([] ++ Clu.layB []) 1000 2 [0, 4, 5] [.s l.length (Clu.pk l), .sn, .i .i64 (.ofNat 0)] [3, 10, 11, 15, 16, 22, 23, 30, 31, 51, 52, 55, 56] [0, 4, 5] [.s l.length (Clu.pk l), .sn, .i .i64 (.ofNat 0)] ([] ++ Clu.layB []) 1003 := by
  have hb := Clu.byteN_pk hB 0
  unfold rGo at hg
  split at hg
  · split at hg
    · cases hg
    · obtain ⟨x, hx, he⟩ := Option.map_eq_some_iff.1 hg
      exact absurd (Prod.mk.inj he).1 (fun h => by cases h)
  · rename_i hc
    refine ⟨(Prod.mk.inj (Option.some.inj hg)).2.symm, ?_⟩
    have K : LaR l (51 + (f + 1)) 2 [0, 4, 5] [.s l.length (Clu.pk l), .sn, .i .i64 (.ofNat 0)] [] 1000 := by
      by_cases h1 : 0 < l.length
      · have h2 : l.getD 0 0 = 0 := by
          by_cases h0 : l.getD 0 0 = 0
          · exact h0
          · exact absurd ⟨h1, h0⟩ hc
        exact Clu.LoopR.out (n := 50) (by simp [Clu.exOf]) (by omega) (by omega) (by omega) fun os ho => labA_1 _ _ 0 os ho h1 (c2 := by omega)
      · exact Clu.LoopR.out (n := 50) (by simp [Clu.exOf]) (by omega) (by omega) (by omega) fun os ho => labA_0 _ _ 0 os ho (by omega)
    exact K.gone (fun x hx => by cases hx) (by omega) (fun x hx => by cases hx) rfl
theorem rLabs_B {l : List Nat} (hB : Clu.B8 l) (hn : l.length ≤ 1000000) {f : Nat} (hf : l.length ≤ f) (hg : rGo l (f + 1) 0 = none) : Clu.LoopQ Try.prog (Clu.loopNo Try.f12 0) (51 + (f + 1)) 58 1000 ([] ++ Clu.layB []) 1000 1 [0, 4, 5] [.s l.length (Clu.pk l), .sn, .i .i64 (.ofNat 0)] [3, 10, 11, 15, 16, 22, 23, 30, 31, 51, 52, 55, 56] [2, 3] [.sn, .b false] ([] ++ Clu.layB []) 1003 := by
  have hb := Clu.byteN_pk hB 0
  have K : ∃ (bl : List (Nat × Clu.Blk)) (nx : Nat), (∀ x ∈ bl, 1000 ≤ x.1) ∧ LaR l (51 + (f + 1)) 1 [2, 3] [.sn, .b false] bl nx := by
    unfold rGo at hg
    split at hg
    · rename_i hc
      split at hg
      · rename_i h3
        have h8 := hB.getD 0
        by_cases h63 : 63 < l.getD 0 0
        · exact ⟨[], 1000, (fun x hx => by cases hx), Clu.LoopR.out (n := 50) (by simp [Clu.exOf]) (by omega) (by omega) (by omega) fun os ho => labA_4 _ _ 0 os ho hc.1 (c2 := by omega) (c3 := by omega)⟩
        · exact ⟨[], 1000, (fun x hx => by cases hx), Clu.LoopR.out (n := 50) (by simp [Clu.exOf]) (by omega) (by omega) (by omega) fun os ho => labA_3 _ _ 0 os ho hc.1 (c2 := by omega) (c3 := by omega) (c4 := by omega)⟩
      · rename_i h3
        obtain ⟨L, K⟩ := rB_B hB hn f _ [(l.drop (0 + 1)).take (l.getD 0 0)] (by simp only [List.length_cons, List.length_nil]; omega) (by omega) (by omega) (Option.map_eq_none_iff.1 hg)
        exact ⟨_, _, (fun x hx => by obtain rfl := List.mem_singleton.1 hx; exact Nat.le_refl _), rA_more hB hn hc.1 hc.2 h3 K⟩
    · cases hg
  obtain ⟨bl, nx, h1, K⟩ := K
  exact K.gone h1 (by omega) (fun x hx => by cases hx) rfl
/-- the document's labels of a name -/
def labN (l : List Nat) : Option (List (List Nat)) := if l.length ≤ 255 then labs l else none
theorem labN_may (l : List Nat) : (labN l).isSome = mayB l := by
  unfold labN mayB
  split
  · rename_i h; rw [decide_eq_true h]; rfl
  · rename_i h; rw [decide_eq_false h]; rfl
def labO : Option (List (List Nat)) → Clu.AV × List Clu.NB
  | none => (.tu [.sn, .b false], [])
  | some [] => (.tu [.sn, .b true], [])
  | some (x :: L) => (.tu [.so 1000 0 1 (L.length + 1), .b true], [(Clu.S1 (x :: L), 1, some 9)])
theorem labels_row {l : List Nat} (hB : Clu.B8 l) (hn : l.length ≤ 1000000) : Clu.RowOK Try.prog 12 [] [.s l.length (Clu.pk l)] [] (labO (labN l)).1 (labO (labN l)).2 := by
  have hg := rGo_labs l (l.length + 1) 0 (by omega)
  rw [List.drop_zero] at hg
  cases hm : rGo l (l.length + 1) 0 with
  | none =>
    rw [hm] at hg
    simp only at hg
    have e : labN l = none := by unfold labN; rw [hg]; split <;> rfl
    rw [e]
    exact labF_6 _ _ 0 0 true false [] rfl rfl ((rLabs_B hB hn (Nat.le_refl _) hm).upto (by omega))
  | some x =>
    obtain ⟨L, e⟩ := x
    rw [hm] at hg
    simp only at hg
    cases L with
    | nil =>
      obtain ⟨rfl, K⟩ := rLabs_0 hB hn hm
      have K := K.upto (show 51 + (l.length + 1) ≤ l.length + 995 by omega)
      by_cases h1 : 0 + 1 = l.length
      · rw [if_pos h1] at hg
        have e : labN l = some [] := by unfold labN; rw [hg, if_pos (by omega)]
        rw [e]
        exact labF_3 _ _ 0 0 false true [] rfl rfl rfl K (c3 := by omega) (c4 := by omega)
      · rw [if_neg h1] at hg
        have e : labN l = none := by unfold labN; rw [hg]; split <;> rfl
        rw [e]
        exact labF_5 _ _ 0 0 false true [] rfl rfl rfl K (c3 := by omega)
    | cons x L =>
      have K := (rLabs_A hB hn (fun h => by cases h) hm).upto (show 51 + (l.length + 1) ≤ l.length + 995 by omega)
      by_cases h1 : e + 1 = l.length
      · rw [if_pos h1] at hg
        by_cases h2 : l.length ≤ 255
        · have e : labN l = some (x :: L) := by unfold labN; rw [hg, if_pos h2]
          rw [e]
          exact labF_0 _ _ _ _ false false _ (Clu.S1_flts _) rfl rfl K (c3 := by omega) (c4 := h2)
        · have e : labN l = none := by unfold labN; rw [if_neg h2]
          rw [e]
          exact labF_1 _ _ _ _ false false _ (Clu.S1_flts _) rfl rfl K (c3 := by omega) (c4 := by omega)
      · rw [if_neg h1] at hg
        have e : labN l = none := by unfold labN; rw [hg]; split <;> rfl
        rw [e]
        exact labF_2 _ _ _ _ false false _ (Clu.S1_flts _) rfl rfl K (c3 := by omega)

end Go.Proofs.Ytmokdhmicdmgfaa
