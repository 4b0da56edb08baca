/-
  SipTells: the document's round and number; blocks of eight bytes.
-/
import Derived.Test.YtdhhocmdolnfiaaDoorSipE
namespace Go.Proofs.YtdhhocmdolnfiaaDoor
open Go.RowKit
set_option linter.unusedVariables false
set_option linter.unusedSimpArgs false
/-! the document's functions -/
set_option maxRecDepth 10000000 in
theorem rround_run (a b c d : Nat) : (Clu.layK [] .e fun h => Clu.runF Tryd.prog Clu.noX 1000 1000 29 [.ag [.i .u64 (.ofNat a), .i .u64 (.ofNat b), .i .u64 (.ofNat c), .i .u64 (.ofNat d)]] h 1000) = .ok (.ag [.i .u64 (.ofNat (pRd0 a b c d)), .i .u64 (.ofNat (pRd1 a b c d)), .i .u64 (.ofNat (pRd2 a b c d)), .i .u64 (.ofNat (pRd3 a b c d))]) := by kernel_rfl
theorem rround (a b c d : Nat) : Clu.Fact Tryd.prog 29 [] [.ag [.i .u64 (.ofNat a), .i .u64 (.ofNat b), .i .u64 (.ofNat c), .i .u64 (.ofNat d)]] (.ag [.i .u64 (.ofNat (pRd0 a b c d)), .i .u64 (.ofNat (pRd1 a b c d)), .i .u64 (.ofNat (pRd2 a b c d)), .i .u64 (.ofNat (pRd3 a b c d))]) := Clu.fact_of Clu.plain Clu.noX_ok Clu.mixed (rround_run a b c d) rfl rfl
def rs (a c : Nat) : Nat := Clu.modN (Clu.wrapF .u64 (Int.ofNat a * Int.ofNat 256) + Clu.wrapF .u64 (Int.ofNat c)) 18446744073709551616
def rNum (M : Nat) : Nat := rs (rs (rs (rs (rs (rs (rs (rs 0 (Clu.byteN M 7)) (Clu.byteN M 6)) (Clu.byteN M 5)) (Clu.byteN M 4)) (Clu.byteN M 3)) (Clu.byteN M 2)) (Clu.byteN M 1)) (Clu.byteN M 0)
set_option maxRecDepth 10000000 in
theorem rnum_run (M : Nat) : (Clu.layK [] .e fun h => Clu.runF Tryd.prog Clu.noX 1000 1000 28 [.s 8 M] h 1000) = .ok (.i .u64 (.ofNat (rNum M))) := by kernel_rfl
theorem rnum (M : Nat) : Clu.Fact Tryd.prog 28 [] [.s 8 M] (.i .u64 (.ofNat (rNum M))) := Clu.fact_of Clu.plain Clu.noX_ok Clu.mixed (rnum_run M) rfl rfl
def FRR (r0 r1 r2 r3 : Nat → Nat → Nat → Nat → Nat) : List Clu.AV → Option Clu.AV
  | [.ag [.i .u64 (.ofNat a), .i .u64 (.ofNat b), .i .u64 (.ofNat c), .i .u64 (.ofNat d)]] => some (.ag [.i .u64 (.ofNat (r0 a b c d)), .i .u64 (.ofNat (r1 a b c d)), .i .u64 (.ofNat (r2 a b c d)), .i .u64 (.ofNat (r3 a b c d))])
  | _ => none
def FRN (rn : Nat → Nat) : List Clu.AV → Option Clu.AV
  | [.s _ M] => some (.i .u64 (.ofNat (rn M)))
  | _ => none
def BRN : List Clu.AV → List Bool
  | [.s n _] => [Nat.beq n 8]
  | _ => [false]
noncomputable def refX (r0 r1 r2 r3 : Nat → Nat → Nat → Nat → Nat) (rn : Nat → Nat) : Clu.XT := Clu.addB (Clu.addB Clu.noX 29 (Clu.funH (FRR r0 r1 r2 r3))) 28 (Clu.funB BRN (FRN rn))
theorem refX_ok : Clu.XOK Tryd.prog (refX pRd0 pRd1 pRd2 pRd3 rNum) := Clu.addB_ok (Clu.addB_ok Clu.noX_ok (Clu.funH_ok fun l v h => by
    unfold FRR at h
    split at h
    · cases h; exact rround _ _ _ _
    · cases h)) (Clu.funB_ok fun l v h hb => by
    unfold FRN at h
    split at h
    · rename_i n M
      cases h
      obtain rfl := Clu.beq_iff.1 (hb _ (List.mem_cons_self ..))
      exact rnum _
    · cases h)
section
variable (a0 a1 a2 a3 : Nat → Nat → Nat → Nat → Nat → Nat) (nu : Nat → Nat → Nat → Nat → Nat → Nat → Nat → Nat → Nat)
theorem stp0 {v0 v1 v2 v3 l0 l1 l2 l3 l4 l5 l6 l7 m c : Nat} (h : m % 8 = 0) : S13.step a0 a1 a2 a3 nu ⟨v0, v1, v2, v3, l0, l1, l2, l3, l4, l5, l6, l7, m⟩ c = ⟨v0, v1, v2, v3, c, l1, l2, l3, l4, l5, l6, l7, m + 1⟩ := by
  unfold S13.step
  simp only [h]
  rfl
theorem stp1 {v0 v1 v2 v3 l0 l1 l2 l3 l4 l5 l6 l7 m c : Nat} (h : m % 8 = 1) : S13.step a0 a1 a2 a3 nu ⟨v0, v1, v2, v3, l0, l1, l2, l3, l4, l5, l6, l7, m⟩ c = ⟨v0, v1, v2, v3, l0, c, l2, l3, l4, l5, l6, l7, m + 1⟩ := by
  unfold S13.step
  simp only [h]
  rfl
theorem stp2 {v0 v1 v2 v3 l0 l1 l2 l3 l4 l5 l6 l7 m c : Nat} (h : m % 8 = 2) : S13.step a0 a1 a2 a3 nu ⟨v0, v1, v2, v3, l0, l1, l2, l3, l4, l5, l6, l7, m⟩ c = ⟨v0, v1, v2, v3, l0, l1, c, l3, l4, l5, l6, l7, m + 1⟩ := by
  unfold S13.step
  simp only [h]
  rfl
theorem stp3 {v0 v1 v2 v3 l0 l1 l2 l3 l4 l5 l6 l7 m c : Nat} (h : m % 8 = 3) : S13.step a0 a1 a2 a3 nu ⟨v0, v1, v2, v3, l0, l1, l2, l3, l4, l5, l6, l7, m⟩ c = ⟨v0, v1, v2, v3, l0, l1, l2, c, l4, l5, l6, l7, m + 1⟩ := by
  unfold S13.step
  simp only [h]
  rfl
theorem stp4 {v0 v1 v2 v3 l0 l1 l2 l3 l4 l5 l6 l7 m c : Nat} (h : m % 8 = 4) : S13.step a0 a1 a2 a3 nu ⟨v0, v1, v2, v3, l0, l1, l2, l3, l4, l5, l6, l7, m⟩ c = ⟨v0, v1, v2, v3, l0, l1, l2, l3, c, l5, l6, l7, m + 1⟩ := by
  unfold S13.step
  simp only [h]
  rfl
theorem stp5 {v0 v1 v2 v3 l0 l1 l2 l3 l4 l5 l6 l7 m c : Nat} (h : m % 8 = 5) : S13.step a0 a1 a2 a3 nu ⟨v0, v1, v2, v3, l0, l1, l2, l3, l4, l5, l6, l7, m⟩ c = ⟨v0, v1, v2, v3, l0, l1, l2, l3, l4, c, l6, l7, m + 1⟩ := by
  unfold S13.step
  simp only [h]
  rfl
theorem stp6 {v0 v1 v2 v3 l0 l1 l2 l3 l4 l5 l6 l7 m c : Nat} (h : m % 8 = 6) : S13.step a0 a1 a2 a3 nu ⟨v0, v1, v2, v3, l0, l1, l2, l3, l4, l5, l6, l7, m⟩ c = ⟨v0, v1, v2, v3, l0, l1, l2, l3, l4, l5, c, l7, m + 1⟩ := by
  unfold S13.step
  simp only [h]
  rfl
theorem stp7 {v0 v1 v2 v3 l0 l1 l2 l3 l4 l5 l6 l7 m c : Nat} (h : m % 8 = 7) : S13.step a0 a1 a2 a3 nu ⟨v0, v1, v2, v3, l0, l1, l2, l3, l4, l5, l6, l7, m⟩ c = ⟨a0 v0 v1 v2 v3 (nu l0 l1 l2 l3 l4 l5 l6 c), a1 v0 v1 v2 v3 (nu l0 l1 l2 l3 l4 l5 l6 c), a2 v0 v1 v2 v3 (nu l0 l1 l2 l3 l4 l5 l6 c), a3 v0 v1 v2 v3 (nu l0 l1 l2 l3 l4 l5 l6 c), 0, 0, 0, 0, 0, 0, 0, 0, m + 1⟩ := by
  unfold S13.step
  simp only [h]
  rfl
def qQ (q : Q4) (m : Nat) : Q4 := q.ad a0 a1 a2 a3 m
/-- eight by eight -/
def blocks : Nat → List Nat → Q4 → Q4
  | 0, _, q => q
  | f + 1, l, q => blocks f (l.drop 8) (qQ a0 a1 a2 a3 q (nu (l.getD 0 0) (l.getD 1 0) (l.getD 2 0) (l.getD 3 0) (l.getD 4 0) (l.getD 5 0) (l.getD 6 0) (l.getD 7 0)))
theorem blocks_cons (f b0 b1 b2 b3 b4 b5 b6 b7 : Nat) (l : List Nat) (q : Q4) : blocks a0 a1 a2 a3 nu (f + 1) (b0 :: b1 :: b2 :: b3 :: b4 :: b5 :: b6 :: b7 :: l) q = blocks a0 a1 a2 a3 nu f l (qQ a0 a1 a2 a3 q (nu b0 b1 b2 b3 b4 b5 b6 b7)) := rfl
def S13.q (g : S13) : Q4 := ⟨g.v0, g.v1, g.v2, g.v3⟩
/-- the last block -/
def S13.last (g : S13) (c : Nat) : Q4 := qQ a0 a1 a2 a3 g.q (nu g.l0 g.l1 g.l2 g.l3 g.l4 g.l5 g.l6 c)
theorem fold_blocks (c : Nat) : ∀ (l : List Nat) (f v0 v1 v2 v3 m z : Nat), m % 8 = 0 → z < 8 → l.length + z + 1 = 8 * f → (l.foldl (S13.step a0 a1 a2 a3 nu) ⟨v0, v1, v2, v3, 0, 0, 0, 0, 0, 0, 0, 0, m⟩).last a0 a1 a2 a3 nu c = blocks a0 a1 a2 a3 nu f (l ++ (List.replicate z 0 ++ [c])) ⟨v0, v1, v2, v3⟩
  | [], f, v0, v1, v2, v3, m, z, hm, hz, hl => by
    obtain rfl : z = 7 := by simp only [List.length_cons, List.length_nil] at hl; omega
    obtain rfl : f = 1 := by simp only [List.length_cons, List.length_nil] at hl; omega
    show S13.last a0 a1 a2 a3 nu ⟨v0, v1, v2, v3, 0, 0, 0, 0, 0, 0, 0, 0, m⟩ c = blocks a0 a1 a2 a3 nu (0 + 1) [0, 0, 0, 0, 0, 0, 0, c] ⟨v0, v1, v2, v3⟩
    rw [blocks_cons]
    rfl
  | [b0], f, v0, v1, v2, v3, m, z, hm, hz, hl => by
    obtain rfl : z = 6 := by simp only [List.length_cons, List.length_nil] at hl; omega
    obtain rfl : f = 1 := by simp only [List.length_cons, List.length_nil] at hl; omega
    have e0 : S13.step a0 a1 a2 a3 nu (⟨v0, v1, v2, v3, 0, 0, 0, 0, 0, 0, 0, 0, m⟩ : S13) b0 = ⟨v0, v1, v2, v3, b0, 0, 0, 0, 0, 0, 0, 0, m + 1⟩ := stp0 a0 a1 a2 a3 nu (by omega)
    simp only [List.foldl_cons, List.foldl_nil, e0]
    show S13.last a0 a1 a2 a3 nu ⟨v0, v1, v2, v3, b0, 0, 0, 0, 0, 0, 0, 0, m + 1⟩ c = blocks a0 a1 a2 a3 nu (0 + 1) [b0, 0, 0, 0, 0, 0, 0, c] ⟨v0, v1, v2, v3⟩
    rw [blocks_cons]
    rfl
  | [b0, b1], f, v0, v1, v2, v3, m, z, hm, hz, hl => by
    obtain rfl : z = 5 := by simp only [List.length_cons, List.length_nil] at hl; omega
    obtain rfl : f = 1 := by simp only [List.length_cons, List.length_nil] at hl; omega
    have e0 : S13.step a0 a1 a2 a3 nu (⟨v0, v1, v2, v3, 0, 0, 0, 0, 0, 0, 0, 0, m⟩ : S13) b0 = ⟨v0, v1, v2, v3, b0, 0, 0, 0, 0, 0, 0, 0, m + 1⟩ := stp0 a0 a1 a2 a3 nu (by omega)
    have e1 : S13.step a0 a1 a2 a3 nu (⟨v0, v1, v2, v3, b0, 0, 0, 0, 0, 0, 0, 0, m + 1⟩ : S13) b1 = ⟨v0, v1, v2, v3, b0, b1, 0, 0, 0, 0, 0, 0, m + 1 + 1⟩ := stp1 a0 a1 a2 a3 nu (by omega)
    simp only [List.foldl_cons, List.foldl_nil, e0, e1]
    show S13.last a0 a1 a2 a3 nu ⟨v0, v1, v2, v3, b0, b1, 0, 0, 0, 0, 0, 0, m + 1 + 1⟩ c = blocks a0 a1 a2 a3 nu (0 + 1) [b0, b1, 0, 0, 0, 0, 0, c] ⟨v0, v1, v2, v3⟩
    rw [blocks_cons]
    rfl
  | [b0, b1, b2], f, v0, v1, v2, v3, m, z, hm, hz, hl => by
    obtain rfl : z = 4 := by simp only [List.length_cons, List.length_nil] at hl; omega
    obtain rfl : f = 1 := by simp only [List.length_cons, List.length_nil] at hl; omega
    have e0 : S13.step a0 a1 a2 a3 nu (⟨v0, v1, v2, v3, 0, 0, 0, 0, 0, 0, 0, 0, m⟩ : S13) b0 = ⟨v0, v1, v2, v3, b0, 0, 0, 0, 0, 0, 0, 0, m + 1⟩ := stp0 a0 a1 a2 a3 nu (by omega)
    have e1 : S13.step a0 a1 a2 a3 nu (⟨v0, v1, v2, v3, b0, 0, 0, 0, 0, 0, 0, 0, m + 1⟩ : S13) b1 = ⟨v0, v1, v2, v3, b0, b1, 0, 0, 0, 0, 0, 0, m + 1 + 1⟩ := stp1 a0 a1 a2 a3 nu (by omega)
    have e2 : S13.step a0 a1 a2 a3 nu (⟨v0, v1, v2, v3, b0, b1, 0, 0, 0, 0, 0, 0, m + 1 + 1⟩ : S13) b2 = ⟨v0, v1, v2, v3, b0, b1, b2, 0, 0, 0, 0, 0, m + 1 + 1 + 1⟩ := stp2 a0 a1 a2 a3 nu (by omega)
    simp only [List.foldl_cons, List.foldl_nil, e0, e1, e2]
    show S13.last a0 a1 a2 a3 nu ⟨v0, v1, v2, v3, b0, b1, b2, 0, 0, 0, 0, 0, m + 1 + 1 + 1⟩ c = blocks a0 a1 a2 a3 nu (0 + 1) [b0, b1, b2, 0, 0, 0, 0, c] ⟨v0, v1, v2, v3⟩
    rw [blocks_cons]
    rfl
  | [b0, b1, b2, b3], f, v0, v1, v2, v3, m, z, hm, hz, hl => by
    obtain rfl : z = 3 := by simp only [List.length_cons, List.length_nil] at hl; omega
    obtain rfl : f = 1 := by simp only [List.length_cons, List.length_nil] at hl; omega
    have e0 : S13.step a0 a1 a2 a3 nu (⟨v0, v1, v2, v3, 0, 0, 0, 0, 0, 0, 0, 0, m⟩ : S13) b0 = ⟨v0, v1, v2, v3, b0, 0, 0, 0, 0, 0, 0, 0, m + 1⟩ := stp0 a0 a1 a2 a3 nu (by omega)
    have e1 : S13.step a0 a1 a2 a3 nu (⟨v0, v1, v2, v3, b0, 0, 0, 0, 0, 0, 0, 0, m + 1⟩ : S13) b1 = ⟨v0, v1, v2, v3, b0, b1, 0, 0, 0, 0, 0, 0, m + 1 + 1⟩ := stp1 a0 a1 a2 a3 nu (by omega)
    have e2 : S13.step a0 a1 a2 a3 nu (⟨v0, v1, v2, v3, b0, b1, 0, 0, 0, 0, 0, 0, m + 1 + 1⟩ : S13) b2 = ⟨v0, v1, v2, v3, b0, b1, b2, 0, 0, 0, 0, 0, m + 1 + 1 + 1⟩ := stp2 a0 a1 a2 a3 nu (by omega)
    have e3 : S13.step a0 a1 a2 a3 nu (⟨v0, v1, v2, v3, b0, b1, b2, 0, 0, 0, 0, 0, m + 1 + 1 + 1⟩ : S13) b3 = ⟨v0, v1, v2, v3, b0, b1, b2, b3, 0, 0, 0, 0, m + 1 + 1 + 1 + 1⟩ := stp3 a0 a1 a2 a3 nu (by omega)
    simp only [List.foldl_cons, List.foldl_nil, e0, e1, e2, e3]
    show S13.last a0 a1 a2 a3 nu ⟨v0, v1, v2, v3, b0, b1, b2, b3, 0, 0, 0, 0, m + 1 + 1 + 1 + 1⟩ c = blocks a0 a1 a2 a3 nu (0 + 1) [b0, b1, b2, b3, 0, 0, 0, c] ⟨v0, v1, v2, v3⟩
    rw [blocks_cons]
    rfl
  | [b0, b1, b2, b3, b4], f, v0, v1, v2, v3, m, z, hm, hz, hl => by
    obtain rfl : z = 2 := by simp only [List.length_cons, List.length_nil] at hl; omega
    obtain rfl : f = 1 := by simp only [List.length_cons, List.length_nil] at hl; omega
    have e0 : S13.step a0 a1 a2 a3 nu (⟨v0, v1, v2, v3, 0, 0, 0, 0, 0, 0, 0, 0, m⟩ : S13) b0 = ⟨v0, v1, v2, v3, b0, 0, 0, 0, 0, 0, 0, 0, m + 1⟩ := stp0 a0 a1 a2 a3 nu (by omega)
    have e1 : S13.step a0 a1 a2 a3 nu (⟨v0, v1, v2, v3, b0, 0, 0, 0, 0, 0, 0, 0, m + 1⟩ : S13) b1 = ⟨v0, v1, v2, v3, b0, b1, 0, 0, 0, 0, 0, 0, m + 1 + 1⟩ := stp1 a0 a1 a2 a3 nu (by omega)
    have e2 : S13.step a0 a1 a2 a3 nu (⟨v0, v1, v2, v3, b0, b1, 0, 0, 0, 0, 0, 0, m + 1 + 1⟩ : S13) b2 = ⟨v0, v1, v2, v3, b0, b1, b2, 0, 0, 0, 0, 0, m + 1 + 1 + 1⟩ := stp2 a0 a1 a2 a3 nu (by omega)
    have e3 : S13.step a0 a1 a2 a3 nu (⟨v0, v1, v2, v3, b0, b1, b2, 0, 0, 0, 0, 0, m + 1 + 1 + 1⟩ : S13) b3 = ⟨v0, v1, v2, v3, b0, b1, b2, b3, 0, 0, 0, 0, m + 1 + 1 + 1 + 1⟩ := stp3 a0 a1 a2 a3 nu (by omega)
    have e4 : S13.step a0 a1 a2 a3 nu (⟨v0, v1, v2, v3, b0, b1, b2, b3, 0, 0, 0, 0, m + 1 + 1 + 1 + 1⟩ : S13) b4 = ⟨v0, v1, v2, v3, b0, b1, b2, b3, b4, 0, 0, 0, m + 1 + 1 + 1 + 1 + 1⟩ := stp4 a0 a1 a2 a3 nu (by omega)
    simp only [List.foldl_cons, List.foldl_nil, e0, e1, e2, e3, e4]
    show S13.last a0 a1 a2 a3 nu ⟨v0, v1, v2, v3, b0, b1, b2, b3, b4, 0, 0, 0, m + 1 + 1 + 1 + 1 + 1⟩ c = blocks a0 a1 a2 a3 nu (0 + 1) [b0, b1, b2, b3, b4, 0, 0, c] ⟨v0, v1, v2, v3⟩
    rw [blocks_cons]
    rfl
  | [b0, b1, b2, b3, b4, b5], f, v0, v1, v2, v3, m, z, hm, hz, hl => by
    obtain rfl : z = 1 := by simp only [List.length_cons, List.length_nil] at hl; omega
    obtain rfl : f = 1 := by simp only [List.length_cons, List.length_nil] at hl; omega
    have e0 : S13.step a0 a1 a2 a3 nu (⟨v0, v1, v2, v3, 0, 0, 0, 0, 0, 0, 0, 0, m⟩ : S13) b0 = ⟨v0, v1, v2, v3, b0, 0, 0, 0, 0, 0, 0, 0, m + 1⟩ := stp0 a0 a1 a2 a3 nu (by omega)
    have e1 : S13.step a0 a1 a2 a3 nu (⟨v0, v1, v2, v3, b0, 0, 0, 0, 0, 0, 0, 0, m + 1⟩ : S13) b1 = ⟨v0, v1, v2, v3, b0, b1, 0, 0, 0, 0, 0, 0, m + 1 + 1⟩ := stp1 a0 a1 a2 a3 nu (by omega)
    have e2 : S13.step a0 a1 a2 a3 nu (⟨v0, v1, v2, v3, b0, b1, 0, 0, 0, 0, 0, 0, m + 1 + 1⟩ : S13) b2 = ⟨v0, v1, v2, v3, b0, b1, b2, 0, 0, 0, 0, 0, m + 1 + 1 + 1⟩ := stp2 a0 a1 a2 a3 nu (by omega)
    have e3 : S13.step a0 a1 a2 a3 nu (⟨v0, v1, v2, v3, b0, b1, b2, 0, 0, 0, 0, 0, m + 1 + 1 + 1⟩ : S13) b3 = ⟨v0, v1, v2, v3, b0, b1, b2, b3, 0, 0, 0, 0, m + 1 + 1 + 1 + 1⟩ := stp3 a0 a1 a2 a3 nu (by omega)
    have e4 : S13.step a0 a1 a2 a3 nu (⟨v0, v1, v2, v3, b0, b1, b2, b3, 0, 0, 0, 0, m + 1 + 1 + 1 + 1⟩ : S13) b4 = ⟨v0, v1, v2, v3, b0, b1, b2, b3, b4, 0, 0, 0, m + 1 + 1 + 1 + 1 + 1⟩ := stp4 a0 a1 a2 a3 nu (by omega)
    have e5 : S13.step a0 a1 a2 a3 nu (⟨v0, v1, v2, v3, b0, b1, b2, b3, b4, 0, 0, 0, m + 1 + 1 + 1 + 1 + 1⟩ : S13) b5 = ⟨v0, v1, v2, v3, b0, b1, b2, b3, b4, b5, 0, 0, m + 1 + 1 + 1 + 1 + 1 + 1⟩ := stp5 a0 a1 a2 a3 nu (by omega)
    simp only [List.foldl_cons, List.foldl_nil, e0, e1, e2, e3, e4, e5]
    show S13.last a0 a1 a2 a3 nu ⟨v0, v1, v2, v3, b0, b1, b2, b3, b4, b5, 0, 0, m + 1 + 1 + 1 + 1 + 1 + 1⟩ c = blocks a0 a1 a2 a3 nu (0 + 1) [b0, b1, b2, b3, b4, b5, 0, c] ⟨v0, v1, v2, v3⟩
    rw [blocks_cons]
    rfl
  | [b0, b1, b2, b3, b4, b5, b6], f, v0, v1, v2, v3, m, z, hm, hz, hl => by
    obtain rfl : z = 0 := by simp only [List.length_cons, List.length_nil] at hl; omega
    obtain rfl : f = 1 := by simp only [List.length_cons, List.length_nil] at hl; omega
    have e0 : S13.step a0 a1 a2 a3 nu (⟨v0, v1, v2, v3, 0, 0, 0, 0, 0, 0, 0, 0, m⟩ : S13) b0 = ⟨v0, v1, v2, v3, b0, 0, 0, 0, 0, 0, 0, 0, m + 1⟩ := stp0 a0 a1 a2 a3 nu (by omega)
    have e1 : S13.step a0 a1 a2 a3 nu (⟨v0, v1, v2, v3, b0, 0, 0, 0, 0, 0, 0, 0, m + 1⟩ : S13) b1 = ⟨v0, v1, v2, v3, b0, b1, 0, 0, 0, 0, 0, 0, m + 1 + 1⟩ := stp1 a0 a1 a2 a3 nu (by omega)
    have e2 : S13.step a0 a1 a2 a3 nu (⟨v0, v1, v2, v3, b0, b1, 0, 0, 0, 0, 0, 0, m + 1 + 1⟩ : S13) b2 = ⟨v0, v1, v2, v3, b0, b1, b2, 0, 0, 0, 0, 0, m + 1 + 1 + 1⟩ := stp2 a0 a1 a2 a3 nu (by omega)
    have e3 : S13.step a0 a1 a2 a3 nu (⟨v0, v1, v2, v3, b0, b1, b2, 0, 0, 0, 0, 0, m + 1 + 1 + 1⟩ : S13) b3 = ⟨v0, v1, v2, v3, b0, b1, b2, b3, 0, 0, 0, 0, m + 1 + 1 + 1 + 1⟩ := stp3 a0 a1 a2 a3 nu (by omega)
    have e4 : S13.step a0 a1 a2 a3 nu (⟨v0, v1, v2, v3, b0, b1, b2, b3, 0, 0, 0, 0, m + 1 + 1 + 1 + 1⟩ : S13) b4 = ⟨v0, v1, v2, v3, b0, b1, b2, b3, b4, 0, 0, 0, m + 1 + 1 + 1 + 1 + 1⟩ := stp4 a0 a1 a2 a3 nu (by omega)
    have e5 : S13.step a0 a1 a2 a3 nu (⟨v0, v1, v2, v3, b0, b1, b2, b3, b4, 0, 0, 0, m + 1 + 1 + 1 + 1 + 1⟩ : S13) b5 = ⟨v0, v1, v2, v3, b0, b1, b2, b3, b4, b5, 0, 0, m + 1 + 1 + 1 + 1 + 1 + 1⟩ := stp5 a0 a1 a2 a3 nu (by omega)
    have e6 : S13.step a0 a1 a2 a3 nu (⟨v0, v1, v2, v3, b0, b1, b2, b3, b4, b5, 0, 0, m + 1 + 1 + 1 + 1 + 1 + 1⟩ : S13) b6 = ⟨v0, v1, v2, v3, b0, b1, b2, b3, b4, b5, b6, 0, m + 1 + 1 + 1 + 1 + 1 + 1 + 1⟩ := stp6 a0 a1 a2 a3 nu (by omega)
    simp only [List.foldl_cons, List.foldl_nil, e0, e1, e2, e3, e4, e5, e6]
    show S13.last a0 a1 a2 a3 nu ⟨v0, v1, v2, v3, b0, b1, b2, b3, b4, b5, b6, 0, m + 1 + 1 + 1 + 1 + 1 + 1 + 1⟩ c = blocks a0 a1 a2 a3 nu (0 + 1) [b0, b1, b2, b3, b4, b5, b6, c] ⟨v0, v1, v2, v3⟩
    rw [blocks_cons]
    rfl
  | b0 :: b1 :: b2 :: b3 :: b4 :: b5 :: b6 :: b7 :: l, f, v0, v1, v2, v3, m, z, hm, hz, hl => by
    obtain ⟨f, rfl⟩ : ∃ g, f = g + 1 := ⟨f - 1, by simp only [List.length_cons] at hl; omega⟩
    have e0 : S13.step a0 a1 a2 a3 nu (⟨v0, v1, v2, v3, 0, 0, 0, 0, 0, 0, 0, 0, m⟩ : S13) b0 = ⟨v0, v1, v2, v3, b0, 0, 0, 0, 0, 0, 0, 0, m + 1⟩ := stp0 a0 a1 a2 a3 nu (by omega)
    have e1 : S13.step a0 a1 a2 a3 nu (⟨v0, v1, v2, v3, b0, 0, 0, 0, 0, 0, 0, 0, m + 1⟩ : S13) b1 = ⟨v0, v1, v2, v3, b0, b1, 0, 0, 0, 0, 0, 0, m + 1 + 1⟩ := stp1 a0 a1 a2 a3 nu (by omega)
    have e2 : S13.step a0 a1 a2 a3 nu (⟨v0, v1, v2, v3, b0, b1, 0, 0, 0, 0, 0, 0, m + 1 + 1⟩ : S13) b2 = ⟨v0, v1, v2, v3, b0, b1, b2, 0, 0, 0, 0, 0, m + 1 + 1 + 1⟩ := stp2 a0 a1 a2 a3 nu (by omega)
    have e3 : S13.step a0 a1 a2 a3 nu (⟨v0, v1, v2, v3, b0, b1, b2, 0, 0, 0, 0, 0, m + 1 + 1 + 1⟩ : S13) b3 = ⟨v0, v1, v2, v3, b0, b1, b2, b3, 0, 0, 0, 0, m + 1 + 1 + 1 + 1⟩ := stp3 a0 a1 a2 a3 nu (by omega)
    have e4 : S13.step a0 a1 a2 a3 nu (⟨v0, v1, v2, v3, b0, b1, b2, b3, 0, 0, 0, 0, m + 1 + 1 + 1 + 1⟩ : S13) b4 = ⟨v0, v1, v2, v3, b0, b1, b2, b3, b4, 0, 0, 0, m + 1 + 1 + 1 + 1 + 1⟩ := stp4 a0 a1 a2 a3 nu (by omega)
    have e5 : S13.step a0 a1 a2 a3 nu (⟨v0, v1, v2, v3, b0, b1, b2, b3, b4, 0, 0, 0, m + 1 + 1 + 1 + 1 + 1⟩ : S13) b5 = ⟨v0, v1, v2, v3, b0, b1, b2, b3, b4, b5, 0, 0, m + 1 + 1 + 1 + 1 + 1 + 1⟩ := stp5 a0 a1 a2 a3 nu (by omega)
    have e6 : S13.step a0 a1 a2 a3 nu (⟨v0, v1, v2, v3, b0, b1, b2, b3, b4, b5, 0, 0, m + 1 + 1 + 1 + 1 + 1 + 1⟩ : S13) b6 = ⟨v0, v1, v2, v3, b0, b1, b2, b3, b4, b5, b6, 0, m + 1 + 1 + 1 + 1 + 1 + 1 + 1⟩ := stp6 a0 a1 a2 a3 nu (by omega)
    have e7 : S13.step a0 a1 a2 a3 nu (⟨v0, v1, v2, v3, b0, b1, b2, b3, b4, b5, b6, 0, m + 1 + 1 + 1 + 1 + 1 + 1 + 1⟩ : S13) b7 = ⟨a0 v0 v1 v2 v3 (nu b0 b1 b2 b3 b4 b5 b6 b7), a1 v0 v1 v2 v3 (nu b0 b1 b2 b3 b4 b5 b6 b7), a2 v0 v1 v2 v3 (nu b0 b1 b2 b3 b4 b5 b6 b7), a3 v0 v1 v2 v3 (nu b0 b1 b2 b3 b4 b5 b6 b7), 0, 0, 0, 0, 0, 0, 0, 0, m + 1 + 1 + 1 + 1 + 1 + 1 + 1 + 1⟩ := stp7 a0 a1 a2 a3 nu (by omega)
    have hl2 : l.length + z + 1 = 8 * f := by simp only [List.length_cons] at hl; omega
    have ih := fold_blocks c l f (a0 v0 v1 v2 v3 (nu b0 b1 b2 b3 b4 b5 b6 b7)) (a1 v0 v1 v2 v3 (nu b0 b1 b2 b3 b4 b5 b6 b7)) (a2 v0 v1 v2 v3 (nu b0 b1 b2 b3 b4 b5 b6 b7)) (a3 v0 v1 v2 v3 (nu b0 b1 b2 b3 b4 b5 b6 b7)) (m + 1 + 1 + 1 + 1 + 1 + 1 + 1 + 1) z (by omega) hz hl2
    simp only [List.foldl_cons, e0, e1, e2, e3, e4, e5, e6, e7, List.cons_append]
    rw [blocks_cons]
    exact ih
/-! the document's blocks -/
noncomputable def refGo (a0 a1 a2 a3 : Nat → Nat → Nat → Nat → Nat → Nat) (rn : Nat → Nat) (N : Nat) : Nat → Nat → Q4 → Q4
  | 0, _, q => q
  | f + 1, at_, q => refGo a0 a1 a2 a3 rn N f (at_ + 8) (qQ a0 a1 a2 a3 q (rn (Clu.maskN 8 (Nat.shiftRight N (Nat.mul 8 at_)))))
theorem byteN_chunk (N at_ i : Nat) (h : i < 8) : Clu.byteN (Clu.maskN 8 (Nat.shiftRight N (Nat.mul 8 at_))) i = Clu.byteN N (at_ + i) :=
  Clu.byteN_mask N 8 (8 * at_) i (at_ + i) h (by omega)
theorem refGo_eq {rn : Nat → Nat} (hrn : ∀ M, rn M = nu (Clu.byteN M 0) (Clu.byteN M 1) (Clu.byteN M 2) (Clu.byteN M 3) (Clu.byteN M 4) (Clu.byteN M 5) (Clu.byteN M 6) (Clu.byteN M 7)) (N : Nat) : ∀ (f at_ : Nat) (q : Q4), refGo a0 a1 a2 a3 rn N f at_ q = blocks a0 a1 a2 a3 nu f ((List.range' at_ (8 * f)).map (Clu.byteN N)) q
  | 0, _, _ => rfl
  | f + 1, at_, q => by
    rw [refGo, refGo_eq hrn N f, hrn]
    rw [byteN_chunk _ _ 0 (by decide), byteN_chunk _ _ 1 (by decide), byteN_chunk _ _ 2 (by decide), byteN_chunk _ _ 3 (by decide), byteN_chunk _ _ 4 (by decide), byteN_chunk _ _ 5 (by decide), byteN_chunk _ _ 6 (by decide), byteN_chunk _ _ 7 (by decide)]
    have e : List.range' at_ (8 * (f + 1)) = at_ :: (at_ + 1) :: (at_ + 2) :: (at_ + 3) :: (at_ + 4) :: (at_ + 5) :: (at_ + 6) :: (at_ + 7) :: List.range' (at_ + 8) (8 * f) := by
      rw [show 8 * (f + 1) = 8 * f + 1 + 1 + 1 + 1 + 1 + 1 + 1 + 1 by omega]
      simp only [List.range'_succ]
    rw [e, List.map_cons, List.map_cons, List.map_cons, List.map_cons, List.map_cons, List.map_cons, List.map_cons, List.map_cons, blocks_cons]
    rfl
end
/-! numbers of eight bytes -/
def ps (x b K : Nat) : Nat := Nat.lor (x % 18446744073709551616 % 18446744073709551616) (b % 18446744073709551616 * K % 18446744073709551616 % 18446744073709551616)
theorem ps_eq {x b k : Nat} (hx : x < 2 ^ k) (hb : b < 256) (hk : k ≤ 56) : ps x b (2 ^ k) = x + b * 2 ^ k := by
  have h1 : 2 ^ k ≤ 2 ^ 56 := Nat.pow_le_pow_right (by decide) hk
  have h2 : b * 2 ^ k ≤ 255 * 2 ^ 56 := Nat.mul_le_mul (by omega) h1
  have h3 : x < 18446744073709551616 := by omega
  have h4 : b < 18446744073709551616 := by omega
  have h5 : b * 2 ^ k < 18446744073709551616 := by omega
  unfold ps
  rw [Nat.mod_eq_of_lt h3, Nat.mod_eq_of_lt h3, Nat.mod_eq_of_lt h4, Nat.mod_eq_of_lt h5, Nat.mod_eq_of_lt h5]
  show x ||| b * 2 ^ k = _
  rw [Nat.or_comm, Nat.mul_comm, ← Nat.two_pow_add_eq_or_of_lt hx b, Nat.add_comm]
theorem pNum_ps (b0 b1 b2 b3 b4 b5 b6 b7 : Nat) : pNum b0 b1 b2 b3 b4 b5 b6 b7 = ps (ps (ps (ps (ps (ps (ps (Nat.lor 0 (b0 % 18446744073709551616 * 1 % 18446744073709551616 % 18446744073709551616)) b1 256) b2 65536) b3 16777216) b4 4294967296) b5 1099511627776) b6 281474976710656) b7 72057594037927936 % 18446744073709551616 := by
  unfold pNum ps
  simp only [Clu.u64_nat, Clu.modN_nat, Clu.mul_nat]
theorem pNum_eq {b0 b1 b2 b3 b4 b5 b6 b7 : Nat} (h0 : b0 < 256) (h1 : b1 < 256) (h2 : b2 < 256) (h3 : b3 < 256) (h4 : b4 < 256) (h5 : b5 < 256) (h6 : b6 < 256) (h7 : b7 < 256) : pNum b0 b1 b2 b3 b4 b5 b6 b7 = b0 + b1 * 256 + b2 * 65536 + b3 * 16777216 + b4 * 4294967296 + b5 * 1099511627776 + b6 * 281474976710656 + b7 * 72057594037927936 := by
  rw [pNum_ps]
  have e0 : Nat.lor 0 (b0 % 18446744073709551616 * 1 % 18446744073709551616 % 18446744073709551616) = b0 := by
    rw [Nat.mul_one, Nat.mod_mod, Nat.mod_mod, Nat.mod_eq_of_lt (by omega)]
    exact Nat.zero_or b0
  rw [e0]
  have e1 := ps_eq (x := b0) (b := b1) (k := 8) (by omega) h1 (by decide)
  rw [show (2 : Nat) ^ 8 = 256 by rfl] at e1
  rw [e1]
  have e2 := ps_eq (x := b0 + b1 * 256) (b := b2) (k := 16) (by omega) h2 (by decide)
  rw [show (2 : Nat) ^ 16 = 65536 by rfl] at e2
  rw [e2]
  have e3 := ps_eq (x := b0 + b1 * 256 + b2 * 65536) (b := b3) (k := 24) (by omega) h3 (by decide)
  rw [show (2 : Nat) ^ 24 = 16777216 by rfl] at e3
  rw [e3]
  have e4 := ps_eq (x := b0 + b1 * 256 + b2 * 65536 + b3 * 16777216) (b := b4) (k := 32) (by omega) h4 (by decide)
  rw [show (2 : Nat) ^ 32 = 4294967296 by rfl] at e4
  rw [e4]
  have e5 := ps_eq (x := b0 + b1 * 256 + b2 * 65536 + b3 * 16777216 + b4 * 4294967296) (b := b5) (k := 40) (by omega) h5 (by decide)
  rw [show (2 : Nat) ^ 40 = 1099511627776 by rfl] at e5
  rw [e5]
  have e6 := ps_eq (x := b0 + b1 * 256 + b2 * 65536 + b3 * 16777216 + b4 * 4294967296 + b5 * 1099511627776) (b := b6) (k := 48) (by omega) h6 (by decide)
  rw [show (2 : Nat) ^ 48 = 281474976710656 by rfl] at e6
  rw [e6]
  have e7 := ps_eq (x := b0 + b1 * 256 + b2 * 65536 + b3 * 16777216 + b4 * 4294967296 + b5 * 1099511627776 + b6 * 281474976710656) (b := b7) (k := 56) (by omega) h7 (by decide)
  rw [show (2 : Nat) ^ 56 = 72057594037927936 by rfl] at e7
  rw [e7]
  omega
theorem rs_eq {a c : Nat} (ha : a < 72057594037927936) (hc : c < 256) : rs a c = a * 256 + c := by
  show (a * 256 % 18446744073709551616 + c % 18446744073709551616) % 18446744073709551616 = _
  omega
theorem rNum_eq (M : Nat) : rNum M = pNum (Clu.byteN M 0) (Clu.byteN M 1) (Clu.byteN M 2) (Clu.byteN M 3) (Clu.byteN M 4) (Clu.byteN M 5) (Clu.byteN M 6) (Clu.byteN M 7) := by
  have h0 := Clu.byteN_lt M 0
  have h1 := Clu.byteN_lt M 1
  have h2 := Clu.byteN_lt M 2
  have h3 := Clu.byteN_lt M 3
  have h4 := Clu.byteN_lt M 4
  have h5 := Clu.byteN_lt M 5
  have h6 := Clu.byteN_lt M 6
  have h7 := Clu.byteN_lt M 7
  rw [pNum_eq h0 h1 h2 h3 h4 h5 h6 h7]
  unfold rNum
  generalize Clu.byteN M 0 = b0 at *
  generalize Clu.byteN M 1 = b1 at *
  generalize Clu.byteN M 2 = b2 at *
  generalize Clu.byteN M 3 = b3 at *
  generalize Clu.byteN M 4 = b4 at *
  generalize Clu.byteN M 5 = b5 at *
  generalize Clu.byteN M 6 = b6 at *
  generalize Clu.byteN M 7 = b7 at *
  rw [rs_eq (a := 0) (by decide) h7, rs_eq (by omega) h6, rs_eq (by omega) h5, rs_eq (by omega) h4, rs_eq (by omega) h3, rs_eq (by omega) h2, rs_eq (by omega) h1, rs_eq (by omega) h0]
  omega

end Go.Proofs.YtdhhocmdolnfiaaDoor
