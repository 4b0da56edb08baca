/-
  head.From: what its run comes to.
-/
import Derived.Test.YtlcggjaogbclkaaDoorHdA
namespace Go.Proofs.YtlcggjaogbclkaaDoor
namespace Clo
open Go.RowKit
set_option linter.unusedVariables false
set_option maxRecDepth 10000
set_option maxHeartbeats 64000000
variable {X : XT}
section
variable {P : Program} {nt lim : Nat} {fr fr1 fr2 : Fr} {h h1 h2 : T} {nx n1 n2 : Nat} {e e1 : Ex}
theorem Ev.loop2 {b : Code} (ha : Ev P X nt lim b fr h nx e1 fr1 h1 n1) (hb : (e1 ≠ .nor ∧ e = e1 ∧ fr2 = fr1 ∧ h2 = h1 ∧ n2 = n1) ∨ (e1 = .nor ∧ Ev P X nt lim (.loop b) fr1 h1 n1 e fr2 h2 n2)) : Ev P X nt lim (.loop b) fr h nx e fr2 h2 n2 := by
  rcases hb with ⟨hn, rfl, rfl, rfl, rfl⟩ | ⟨rfl, hl⟩
  · exact Ev.loop_out ha hn
  · exact Ev.loop ha hl
theorem bin_add_z {a b : Operand} {t pos : TypeId} {kd : IntKind} {x y z : Int} (ha : ∀ k, opdK fr a k = k (.i kd x)) (hb : ∀ k, opdK fr b k = k (.i kd y)) (hz : kd.wrap (x + y) = z) : Op1 P X lim (.binOp .add t a b pos) fr h nx (.i kd z) h nx := hz ▸ bin_add ha hb
theorem bin_lss_z {a b : Operand} {t pos : TypeId} {kd : IntKind} {x y : Int} {z : Bool} (ha : ∀ k, opdK fr a k = k (.i kd x)) (hb : ∀ k, opdK fr b k = k (.i kd y)) (hz : decide (x < y) = z) : Op1 P X lim (.binOp .lss t a b pos) fr h nx (.b z) h nx := hz ▸ bin_lss ha hb
theorem bin_shr_v {m : Nat} {a b : Operand} {t pos : TypeId} {ka kb : IntKind} {x : Int} (ha : ∀ k, opdK fr a k = k (.i ka x)) (hb : ∀ k, opdK fr b k = k (.i kb (Int.ofNat m))) (hm : m ≤ ka.bits) : Op1 P X lim (.binOp .shr t a b pos) fr h nx (.i ka (x.fdiv (2 ^ m))) h nx := by
  have := bin_shr (P := P) (X := X) (lim := lim) (h := h) (nx := nx) (t := t) (pos := pos) ha hb (Int.natCast_nonneg m)
  rw [show min (Int.ofNat m).toNat ka.bits = m from Nat.min_eq_left hm] at this
  exact this
end
theorem sk0 (hXs : X 50 = none) (lim : Nat) : ∃ s : Int → Int → Int → Int → Bool → Bool → Bool → Bool → Bool → Bool → Bool → Bool → T → Nat → T, ∀ (c0 c2 c10 n : Int) (c1 c3 c4 c5 c6 c7 c8 c9 : Bool) (h : T) (nx : Nat), lim ≤ nx → Cl Tryd.prog X lim 50 [.ag [.i .u16 c0, .b c1, .i .u8 c2, .b c3, .b c4, .b c5, .b c6, .b c7, .b c8, .b c9, .i .u8 c10], .i .i64 0, .i .u16 n] h nx (.ag [.i .u16 c0, .b (n != 0), .i .u8 c2, .b c3, .b c4, .b c5, .b c6, .b c7, .b c8, .b c9, .i .u8 c10]) (s c0 c2 c10 n c1 c3 c4 c5 c6 c7 c8 c9 h nx) (nx + 2) ∧ ∀ id, id < nx → (s c0 c2 c10 n c1 c3 c4 c5 c6 c7 c8 c9 h nx).get id = h.get id := by
  classical
  refine ⟨fun c0 c2 c10 n c1 c3 c4 c5 c6 c7 c8 c9 h nx => if hl : lim ≤ nx then (set_0 hXs c0 c2 c10 n c1 c3 c4 c5 c6 c7 c8 c9 lim h nx hl).choose else h, fun c0 c2 c10 n c1 c3 c4 c5 c6 c7 c8 c9 h nx hl => ?_⟩
  simp only [dif_pos hl]
  exact (set_0 hXs c0 c2 c10 n c1 c3 c4 c5 c6 c7 c8 c9 lim h nx hl).choose_spec
theorem sk1 (hXs : X 50 = none) (lim : Nat) : ∃ s : Int → Int → Int → Int → Bool → Bool → Bool → Bool → Bool → Bool → Bool → Bool → T → Nat → T, ∀ (c0 c2 c10 n : Int) (c1 c3 c4 c5 c6 c7 c8 c9 : Bool) (h : T) (nx : Nat), lim ≤ nx → Cl Tryd.prog X lim 50 [.ag [.i .u16 c0, .b c1, .i .u8 c2, .b c3, .b c4, .b c5, .b c6, .b c7, .b c8, .b c9, .i .u8 c10], .i .i64 1, .i .u16 n] h nx (.ag [.i .u16 c0, .b c1, .i .u8 (IntKind.u8.wrap n), .b c3, .b c4, .b c5, .b c6, .b c7, .b c8, .b c9, .i .u8 c10]) (s c0 c2 c10 n c1 c3 c4 c5 c6 c7 c8 c9 h nx) (nx + 2) ∧ ∀ id, id < nx → (s c0 c2 c10 n c1 c3 c4 c5 c6 c7 c8 c9 h nx).get id = h.get id := by
  classical
  refine ⟨fun c0 c2 c10 n c1 c3 c4 c5 c6 c7 c8 c9 h nx => if hl : lim ≤ nx then (set_1 hXs c0 c2 c10 n c1 c3 c4 c5 c6 c7 c8 c9 lim h nx hl).choose else h, fun c0 c2 c10 n c1 c3 c4 c5 c6 c7 c8 c9 h nx hl => ?_⟩
  simp only [dif_pos hl]
  exact (set_1 hXs c0 c2 c10 n c1 c3 c4 c5 c6 c7 c8 c9 lim h nx hl).choose_spec
theorem sk2 (hXs : X 50 = none) (lim : Nat) : ∃ s : Int → Int → Int → Int → Bool → Bool → Bool → Bool → Bool → Bool → Bool → Bool → T → Nat → T, ∀ (c0 c2 c10 n : Int) (c1 c3 c4 c5 c6 c7 c8 c9 : Bool) (h : T) (nx : Nat), lim ≤ nx → Cl Tryd.prog X lim 50 [.ag [.i .u16 c0, .b c1, .i .u8 c2, .b c3, .b c4, .b c5, .b c6, .b c7, .b c8, .b c9, .i .u8 c10], .i .i64 2, .i .u16 n] h nx (.ag [.i .u16 c0, .b c1, .i .u8 c2, .b (n != 0), .b c4, .b c5, .b c6, .b c7, .b c8, .b c9, .i .u8 c10]) (s c0 c2 c10 n c1 c3 c4 c5 c6 c7 c8 c9 h nx) (nx + 2) ∧ ∀ id, id < nx → (s c0 c2 c10 n c1 c3 c4 c5 c6 c7 c8 c9 h nx).get id = h.get id := by
  classical
  refine ⟨fun c0 c2 c10 n c1 c3 c4 c5 c6 c7 c8 c9 h nx => if hl : lim ≤ nx then (set_2 hXs c0 c2 c10 n c1 c3 c4 c5 c6 c7 c8 c9 lim h nx hl).choose else h, fun c0 c2 c10 n c1 c3 c4 c5 c6 c7 c8 c9 h nx hl => ?_⟩
  simp only [dif_pos hl]
  exact (set_2 hXs c0 c2 c10 n c1 c3 c4 c5 c6 c7 c8 c9 lim h nx hl).choose_spec
theorem sk3 (hXs : X 50 = none) (lim : Nat) : ∃ s : Int → Int → Int → Int → Bool → Bool → Bool → Bool → Bool → Bool → Bool → Bool → T → Nat → T, ∀ (c0 c2 c10 n : Int) (c1 c3 c4 c5 c6 c7 c8 c9 : Bool) (h : T) (nx : Nat), lim ≤ nx → Cl Tryd.prog X lim 50 [.ag [.i .u16 c0, .b c1, .i .u8 c2, .b c3, .b c4, .b c5, .b c6, .b c7, .b c8, .b c9, .i .u8 c10], .i .i64 3, .i .u16 n] h nx (.ag [.i .u16 c0, .b c1, .i .u8 c2, .b c3, .b (n != 0), .b c5, .b c6, .b c7, .b c8, .b c9, .i .u8 c10]) (s c0 c2 c10 n c1 c3 c4 c5 c6 c7 c8 c9 h nx) (nx + 2) ∧ ∀ id, id < nx → (s c0 c2 c10 n c1 c3 c4 c5 c6 c7 c8 c9 h nx).get id = h.get id := by
  classical
  refine ⟨fun c0 c2 c10 n c1 c3 c4 c5 c6 c7 c8 c9 h nx => if hl : lim ≤ nx then (set_3 hXs c0 c2 c10 n c1 c3 c4 c5 c6 c7 c8 c9 lim h nx hl).choose else h, fun c0 c2 c10 n c1 c3 c4 c5 c6 c7 c8 c9 h nx hl => ?_⟩
  simp only [dif_pos hl]
  exact (set_3 hXs c0 c2 c10 n c1 c3 c4 c5 c6 c7 c8 c9 lim h nx hl).choose_spec
theorem sk4 (hXs : X 50 = none) (lim : Nat) : ∃ s : Int → Int → Int → Int → Bool → Bool → Bool → Bool → Bool → Bool → Bool → Bool → T → Nat → T, ∀ (c0 c2 c10 n : Int) (c1 c3 c4 c5 c6 c7 c8 c9 : Bool) (h : T) (nx : Nat), lim ≤ nx → Cl Tryd.prog X lim 50 [.ag [.i .u16 c0, .b c1, .i .u8 c2, .b c3, .b c4, .b c5, .b c6, .b c7, .b c8, .b c9, .i .u8 c10], .i .i64 4, .i .u16 n] h nx (.ag [.i .u16 c0, .b c1, .i .u8 c2, .b c3, .b c4, .b (n != 0), .b c6, .b c7, .b c8, .b c9, .i .u8 c10]) (s c0 c2 c10 n c1 c3 c4 c5 c6 c7 c8 c9 h nx) (nx + 2) ∧ ∀ id, id < nx → (s c0 c2 c10 n c1 c3 c4 c5 c6 c7 c8 c9 h nx).get id = h.get id := by
  classical
  refine ⟨fun c0 c2 c10 n c1 c3 c4 c5 c6 c7 c8 c9 h nx => if hl : lim ≤ nx then (set_4 hXs c0 c2 c10 n c1 c3 c4 c5 c6 c7 c8 c9 lim h nx hl).choose else h, fun c0 c2 c10 n c1 c3 c4 c5 c6 c7 c8 c9 h nx hl => ?_⟩
  simp only [dif_pos hl]
  exact (set_4 hXs c0 c2 c10 n c1 c3 c4 c5 c6 c7 c8 c9 lim h nx hl).choose_spec
theorem sk5 (hXs : X 50 = none) (lim : Nat) : ∃ s : Int → Int → Int → Int → Bool → Bool → Bool → Bool → Bool → Bool → Bool → Bool → T → Nat → T, ∀ (c0 c2 c10 n : Int) (c1 c3 c4 c5 c6 c7 c8 c9 : Bool) (h : T) (nx : Nat), lim ≤ nx → Cl Tryd.prog X lim 50 [.ag [.i .u16 c0, .b c1, .i .u8 c2, .b c3, .b c4, .b c5, .b c6, .b c7, .b c8, .b c9, .i .u8 c10], .i .i64 5, .i .u16 n] h nx (.ag [.i .u16 c0, .b c1, .i .u8 c2, .b c3, .b c4, .b c5, .b (n != 0), .b c7, .b c8, .b c9, .i .u8 c10]) (s c0 c2 c10 n c1 c3 c4 c5 c6 c7 c8 c9 h nx) (nx + 2) ∧ ∀ id, id < nx → (s c0 c2 c10 n c1 c3 c4 c5 c6 c7 c8 c9 h nx).get id = h.get id := by
  classical
  refine ⟨fun c0 c2 c10 n c1 c3 c4 c5 c6 c7 c8 c9 h nx => if hl : lim ≤ nx then (set_5 hXs c0 c2 c10 n c1 c3 c4 c5 c6 c7 c8 c9 lim h nx hl).choose else h, fun c0 c2 c10 n c1 c3 c4 c5 c6 c7 c8 c9 h nx hl => ?_⟩
  simp only [dif_pos hl]
  exact (set_5 hXs c0 c2 c10 n c1 c3 c4 c5 c6 c7 c8 c9 lim h nx hl).choose_spec
theorem sk6 (hXs : X 50 = none) (lim : Nat) : ∃ s : Int → Int → Int → Int → Bool → Bool → Bool → Bool → Bool → Bool → Bool → Bool → T → Nat → T, ∀ (c0 c2 c10 n : Int) (c1 c3 c4 c5 c6 c7 c8 c9 : Bool) (h : T) (nx : Nat), lim ≤ nx → Cl Tryd.prog X lim 50 [.ag [.i .u16 c0, .b c1, .i .u8 c2, .b c3, .b c4, .b c5, .b c6, .b c7, .b c8, .b c9, .i .u8 c10], .i .i64 6, .i .u16 n] h nx (.ag [.i .u16 c0, .b c1, .i .u8 c2, .b c3, .b c4, .b c5, .b c6, .b (n != 0), .b c8, .b c9, .i .u8 c10]) (s c0 c2 c10 n c1 c3 c4 c5 c6 c7 c8 c9 h nx) (nx + 2) ∧ ∀ id, id < nx → (s c0 c2 c10 n c1 c3 c4 c5 c6 c7 c8 c9 h nx).get id = h.get id := by
  classical
  refine ⟨fun c0 c2 c10 n c1 c3 c4 c5 c6 c7 c8 c9 h nx => if hl : lim ≤ nx then (set_6 hXs c0 c2 c10 n c1 c3 c4 c5 c6 c7 c8 c9 lim h nx hl).choose else h, fun c0 c2 c10 n c1 c3 c4 c5 c6 c7 c8 c9 h nx hl => ?_⟩
  simp only [dif_pos hl]
  exact (set_6 hXs c0 c2 c10 n c1 c3 c4 c5 c6 c7 c8 c9 lim h nx hl).choose_spec
theorem sk7 (hXs : X 50 = none) (lim : Nat) : ∃ s : Int → Int → Int → Int → Bool → Bool → Bool → Bool → Bool → Bool → Bool → Bool → T → Nat → T, ∀ (c0 c2 c10 n : Int) (c1 c3 c4 c5 c6 c7 c8 c9 : Bool) (h : T) (nx : Nat), lim ≤ nx → Cl Tryd.prog X lim 50 [.ag [.i .u16 c0, .b c1, .i .u8 c2, .b c3, .b c4, .b c5, .b c6, .b c7, .b c8, .b c9, .i .u8 c10], .i .i64 7, .i .u16 n] h nx (.ag [.i .u16 c0, .b c1, .i .u8 c2, .b c3, .b c4, .b c5, .b c6, .b c7, .b (n != 0), .b c9, .i .u8 c10]) (s c0 c2 c10 n c1 c3 c4 c5 c6 c7 c8 c9 h nx) (nx + 2) ∧ ∀ id, id < nx → (s c0 c2 c10 n c1 c3 c4 c5 c6 c7 c8 c9 h nx).get id = h.get id := by
  classical
  refine ⟨fun c0 c2 c10 n c1 c3 c4 c5 c6 c7 c8 c9 h nx => if hl : lim ≤ nx then (set_7 hXs c0 c2 c10 n c1 c3 c4 c5 c6 c7 c8 c9 lim h nx hl).choose else h, fun c0 c2 c10 n c1 c3 c4 c5 c6 c7 c8 c9 h nx hl => ?_⟩
  simp only [dif_pos hl]
  exact (set_7 hXs c0 c2 c10 n c1 c3 c4 c5 c6 c7 c8 c9 lim h nx hl).choose_spec
theorem sk8 (hXs : X 50 = none) (lim : Nat) : ∃ s : Int → Int → Int → Int → Bool → Bool → Bool → Bool → Bool → Bool → Bool → Bool → T → Nat → T, ∀ (c0 c2 c10 n : Int) (c1 c3 c4 c5 c6 c7 c8 c9 : Bool) (h : T) (nx : Nat), lim ≤ nx → Cl Tryd.prog X lim 50 [.ag [.i .u16 c0, .b c1, .i .u8 c2, .b c3, .b c4, .b c5, .b c6, .b c7, .b c8, .b c9, .i .u8 c10], .i .i64 8, .i .u16 n] h nx (.ag [.i .u16 c0, .b c1, .i .u8 c2, .b c3, .b c4, .b c5, .b c6, .b c7, .b c8, .b (n != 0), .i .u8 c10]) (s c0 c2 c10 n c1 c3 c4 c5 c6 c7 c8 c9 h nx) (nx + 2) ∧ ∀ id, id < nx → (s c0 c2 c10 n c1 c3 c4 c5 c6 c7 c8 c9 h nx).get id = h.get id := by
  classical
  refine ⟨fun c0 c2 c10 n c1 c3 c4 c5 c6 c7 c8 c9 h nx => if hl : lim ≤ nx then (set_8 hXs c0 c2 c10 n c1 c3 c4 c5 c6 c7 c8 c9 lim h nx hl).choose else h, fun c0 c2 c10 n c1 c3 c4 c5 c6 c7 c8 c9 h nx hl => ?_⟩
  simp only [dif_pos hl]
  exact (set_8 hXs c0 c2 c10 n c1 c3 c4 c5 c6 c7 c8 c9 lim h nx hl).choose_spec
theorem sk9 (hXs : X 50 = none) (lim : Nat) : ∃ s : Int → Int → Int → Int → Bool → Bool → Bool → Bool → Bool → Bool → Bool → Bool → T → Nat → T, ∀ (c0 c2 c10 n : Int) (c1 c3 c4 c5 c6 c7 c8 c9 : Bool) (h : T) (nx : Nat), lim ≤ nx → Cl Tryd.prog X lim 50 [.ag [.i .u16 c0, .b c1, .i .u8 c2, .b c3, .b c4, .b c5, .b c6, .b c7, .b c8, .b c9, .i .u8 c10], .i .i64 9, .i .u16 n] h nx (.ag [.i .u16 c0, .b c1, .i .u8 c2, .b c3, .b c4, .b c5, .b c6, .b c7, .b c8, .b c9, .i .u8 (IntKind.u8.wrap n)]) (s c0 c2 c10 n c1 c3 c4 c5 c6 c7 c8 c9 h nx) (nx + 2) ∧ ∀ id, id < nx → (s c0 c2 c10 n c1 c3 c4 c5 c6 c7 c8 c9 h nx).get id = h.get id := by
  classical
  refine ⟨fun c0 c2 c10 n c1 c3 c4 c5 c6 c7 c8 c9 h nx => if hl : lim ≤ nx then (set_9 hXs c0 c2 c10 n c1 c3 c4 c5 c6 c7 c8 c9 lim h nx hl).choose else h, fun c0 c2 c10 n c1 c3 c4 c5 c6 c7 c8 c9 h nx hl => ?_⟩
  simp only [dif_pos hl]
  exact (set_9 hXs c0 c2 c10 n c1 c3 c4 c5 c6 c7 c8 c9 lim h nx hl).choose_spec
def bitsCells : List AV := [.i .i64 0, .i .u16 15, .i .u16 1, .i .i64 1, .i .u16 11, .i .u16 15, .i .i64 2, .i .u16 10, .i .u16 1, .i .i64 3, .i .u16 9, .i .u16 1, .i .i64 4, .i .u16 8, .i .u16 1, .i .i64 5, .i .u16 7, .i .u16 1, .i .i64 6, .i .u16 6, .i .u16 1, .i .i64 7, .i .u16 5, .i .u16 1, .i .i64 8, .i .u16 4, .i .u16 1, .i .i64 9, .i .u16 0, .i .u16 15]
/-- the cells of the head that the flags n tell -/
def hdCells (n : Int) : List AV := [.i .u16 0, .b ((bAnd .u16 (n.fdiv (2 ^ 15)) 1) != 0), .i .u8 (IntKind.u8.wrap (bAnd .u16 (n.fdiv (2 ^ 11)) 15)), .b ((bAnd .u16 (n.fdiv (2 ^ 10)) 1) != 0), .b ((bAnd .u16 (n.fdiv (2 ^ 9)) 1) != 0), .b ((bAnd .u16 (n.fdiv (2 ^ 8)) 1) != 0), .b ((bAnd .u16 (n.fdiv (2 ^ 7)) 1) != 0), .b ((bAnd .u16 (n.fdiv (2 ^ 6)) 1) != 0), .b ((bAnd .u16 (n.fdiv (2 ^ 5)) 1) != 0), .b ((bAnd .u16 (n.fdiv (2 ^ 4)) 1) != 0), .i .u8 (IntKind.u8.wrap (bAnd .u16 (n.fdiv (2 ^ 0)) 15))]
theorem from_cl (hX : X 22 = none) (hXs : X 50 = none) (n : Int) (lim : Nat) (h : T) (nx : Nat) (hlim : lim ≤ nx) (h1 : 0 < nx) (hB : h.get 0 = some (.c bitsCells 30 0 none)) :
    ∃ h', Cl Tryd.prog X lim 22 [.i .u16 n] h nx (.ag (hdCells n)) h' (nx + 32) ∧ ∀ id, id < nx → h'.get id = h.get id := by
  obtain ⟨s0, hs0⟩ : ∃ s : Int → Int → Int → Int → Bool → Bool → Bool → Bool → Bool → Bool → Bool → Bool → T → Nat → T, ∀ (c0 c2 c10 n : Int) (c1 c3 c4 c5 c6 c7 c8 c9 : Bool) (h : T) (nx : Nat), lim ≤ nx → Cl Tryd.prog X lim 50 [.ag [.i .u16 c0, .b c1, .i .u8 c2, .b c3, .b c4, .b c5, .b c6, .b c7, .b c8, .b c9, .i .u8 c10], .i .i64 0, .i .u16 n] h nx (.ag [.i .u16 c0, .b (n != 0), .i .u8 c2, .b c3, .b c4, .b c5, .b c6, .b c7, .b c8, .b c9, .i .u8 c10]) (s c0 c2 c10 n c1 c3 c4 c5 c6 c7 c8 c9 h nx) (nx + 2) ∧ ∀ id, id < nx → (s c0 c2 c10 n c1 c3 c4 c5 c6 c7 c8 c9 h nx).get id = h.get id := sk0 hXs lim
  obtain ⟨s1, hs1⟩ : ∃ s : Int → Int → Int → Int → Bool → Bool → Bool → Bool → Bool → Bool → Bool → Bool → T → Nat → T, ∀ (c0 c2 c10 n : Int) (c1 c3 c4 c5 c6 c7 c8 c9 : Bool) (h : T) (nx : Nat), lim ≤ nx → Cl Tryd.prog X lim 50 [.ag [.i .u16 c0, .b c1, .i .u8 c2, .b c3, .b c4, .b c5, .b c6, .b c7, .b c8, .b c9, .i .u8 c10], .i .i64 1, .i .u16 n] h nx (.ag [.i .u16 c0, .b c1, .i .u8 (IntKind.u8.wrap n), .b c3, .b c4, .b c5, .b c6, .b c7, .b c8, .b c9, .i .u8 c10]) (s c0 c2 c10 n c1 c3 c4 c5 c6 c7 c8 c9 h nx) (nx + 2) ∧ ∀ id, id < nx → (s c0 c2 c10 n c1 c3 c4 c5 c6 c7 c8 c9 h nx).get id = h.get id := sk1 hXs lim
  obtain ⟨s2, hs2⟩ : ∃ s : Int → Int → Int → Int → Bool → Bool → Bool → Bool → Bool → Bool → Bool → Bool → T → Nat → T, ∀ (c0 c2 c10 n : Int) (c1 c3 c4 c5 c6 c7 c8 c9 : Bool) (h : T) (nx : Nat), lim ≤ nx → Cl Tryd.prog X lim 50 [.ag [.i .u16 c0, .b c1, .i .u8 c2, .b c3, .b c4, .b c5, .b c6, .b c7, .b c8, .b c9, .i .u8 c10], .i .i64 2, .i .u16 n] h nx (.ag [.i .u16 c0, .b c1, .i .u8 c2, .b (n != 0), .b c4, .b c5, .b c6, .b c7, .b c8, .b c9, .i .u8 c10]) (s c0 c2 c10 n c1 c3 c4 c5 c6 c7 c8 c9 h nx) (nx + 2) ∧ ∀ id, id < nx → (s c0 c2 c10 n c1 c3 c4 c5 c6 c7 c8 c9 h nx).get id = h.get id := sk2 hXs lim
  obtain ⟨s3, hs3⟩ : ∃ s : Int → Int → Int → Int → Bool → Bool → Bool → Bool → Bool → Bool → Bool → Bool → T → Nat → T, ∀ (c0 c2 c10 n : Int) (c1 c3 c4 c5 c6 c7 c8 c9 : Bool) (h : T) (nx : Nat), lim ≤ nx → Cl Tryd.prog X lim 50 [.ag [.i .u16 c0, .b c1, .i .u8 c2, .b c3, .b c4, .b c5, .b c6, .b c7, .b c8, .b c9, .i .u8 c10], .i .i64 3, .i .u16 n] h nx (.ag [.i .u16 c0, .b c1, .i .u8 c2, .b c3, .b (n != 0), .b c5, .b c6, .b c7, .b c8, .b c9, .i .u8 c10]) (s c0 c2 c10 n c1 c3 c4 c5 c6 c7 c8 c9 h nx) (nx + 2) ∧ ∀ id, id < nx → (s c0 c2 c10 n c1 c3 c4 c5 c6 c7 c8 c9 h nx).get id = h.get id := sk3 hXs lim
  obtain ⟨s4, hs4⟩ : ∃ s : Int → Int → Int → Int → Bool → Bool → Bool → Bool → Bool → Bool → Bool → Bool → T → Nat → T, ∀ (c0 c2 c10 n : Int) (c1 c3 c4 c5 c6 c7 c8 c9 : Bool) (h : T) (nx : Nat), lim ≤ nx → Cl Tryd.prog X lim 50 [.ag [.i .u16 c0, .b c1, .i .u8 c2, .b c3, .b c4, .b c5, .b c6, .b c7, .b c8, .b c9, .i .u8 c10], .i .i64 4, .i .u16 n] h nx (.ag [.i .u16 c0, .b c1, .i .u8 c2, .b c3, .b c4, .b (n != 0), .b c6, .b c7, .b c8, .b c9, .i .u8 c10]) (s c0 c2 c10 n c1 c3 c4 c5 c6 c7 c8 c9 h nx) (nx + 2) ∧ ∀ id, id < nx → (s c0 c2 c10 n c1 c3 c4 c5 c6 c7 c8 c9 h nx).get id = h.get id := sk4 hXs lim
  obtain ⟨s5, hs5⟩ : ∃ s : Int → Int → Int → Int → Bool → Bool → Bool → Bool → Bool → Bool → Bool → Bool → T → Nat → T, ∀ (c0 c2 c10 n : Int) (c1 c3 c4 c5 c6 c7 c8 c9 : Bool) (h : T) (nx : Nat), lim ≤ nx → Cl Tryd.prog X lim 50 [.ag [.i .u16 c0, .b c1, .i .u8 c2, .b c3, .b c4, .b c5, .b c6, .b c7, .b c8, .b c9, .i .u8 c10], .i .i64 5, .i .u16 n] h nx (.ag [.i .u16 c0, .b c1, .i .u8 c2, .b c3, .b c4, .b c5, .b (n != 0), .b c7, .b c8, .b c9, .i .u8 c10]) (s c0 c2 c10 n c1 c3 c4 c5 c6 c7 c8 c9 h nx) (nx + 2) ∧ ∀ id, id < nx → (s c0 c2 c10 n c1 c3 c4 c5 c6 c7 c8 c9 h nx).get id = h.get id := sk5 hXs lim
  obtain ⟨s6, hs6⟩ : ∃ s : Int → Int → Int → Int → Bool → Bool → Bool → Bool → Bool → Bool → Bool → Bool → T → Nat → T, ∀ (c0 c2 c10 n : Int) (c1 c3 c4 c5 c6 c7 c8 c9 : Bool) (h : T) (nx : Nat), lim ≤ nx → Cl Tryd.prog X lim 50 [.ag [.i .u16 c0, .b c1, .i .u8 c2, .b c3, .b c4, .b c5, .b c6, .b c7, .b c8, .b c9, .i .u8 c10], .i .i64 6, .i .u16 n] h nx (.ag [.i .u16 c0, .b c1, .i .u8 c2, .b c3, .b c4, .b c5, .b c6, .b (n != 0), .b c8, .b c9, .i .u8 c10]) (s c0 c2 c10 n c1 c3 c4 c5 c6 c7 c8 c9 h nx) (nx + 2) ∧ ∀ id, id < nx → (s c0 c2 c10 n c1 c3 c4 c5 c6 c7 c8 c9 h nx).get id = h.get id := sk6 hXs lim
  obtain ⟨s7, hs7⟩ : ∃ s : Int → Int → Int → Int → Bool → Bool → Bool → Bool → Bool → Bool → Bool → Bool → T → Nat → T, ∀ (c0 c2 c10 n : Int) (c1 c3 c4 c5 c6 c7 c8 c9 : Bool) (h : T) (nx : Nat), lim ≤ nx → Cl Tryd.prog X lim 50 [.ag [.i .u16 c0, .b c1, .i .u8 c2, .b c3, .b c4, .b c5, .b c6, .b c7, .b c8, .b c9, .i .u8 c10], .i .i64 7, .i .u16 n] h nx (.ag [.i .u16 c0, .b c1, .i .u8 c2, .b c3, .b c4, .b c5, .b c6, .b c7, .b (n != 0), .b c9, .i .u8 c10]) (s c0 c2 c10 n c1 c3 c4 c5 c6 c7 c8 c9 h nx) (nx + 2) ∧ ∀ id, id < nx → (s c0 c2 c10 n c1 c3 c4 c5 c6 c7 c8 c9 h nx).get id = h.get id := sk7 hXs lim
  obtain ⟨s8, hs8⟩ : ∃ s : Int → Int → Int → Int → Bool → Bool → Bool → Bool → Bool → Bool → Bool → Bool → T → Nat → T, ∀ (c0 c2 c10 n : Int) (c1 c3 c4 c5 c6 c7 c8 c9 : Bool) (h : T) (nx : Nat), lim ≤ nx → Cl Tryd.prog X lim 50 [.ag [.i .u16 c0, .b c1, .i .u8 c2, .b c3, .b c4, .b c5, .b c6, .b c7, .b c8, .b c9, .i .u8 c10], .i .i64 8, .i .u16 n] h nx (.ag [.i .u16 c0, .b c1, .i .u8 c2, .b c3, .b c4, .b c5, .b c6, .b c7, .b c8, .b (n != 0), .i .u8 c10]) (s c0 c2 c10 n c1 c3 c4 c5 c6 c7 c8 c9 h nx) (nx + 2) ∧ ∀ id, id < nx → (s c0 c2 c10 n c1 c3 c4 c5 c6 c7 c8 c9 h nx).get id = h.get id := sk8 hXs lim
  obtain ⟨s9, hs9⟩ : ∃ s : Int → Int → Int → Int → Bool → Bool → Bool → Bool → Bool → Bool → Bool → Bool → T → Nat → T, ∀ (c0 c2 c10 n : Int) (c1 c3 c4 c5 c6 c7 c8 c9 : Bool) (h : T) (nx : Nat), lim ≤ nx → Cl Tryd.prog X lim 50 [.ag [.i .u16 c0, .b c1, .i .u8 c2, .b c3, .b c4, .b c5, .b c6, .b c7, .b c8, .b c9, .i .u8 c10], .i .i64 9, .i .u16 n] h nx (.ag [.i .u16 c0, .b c1, .i .u8 c2, .b c3, .b c4, .b c5, .b c6, .b c7, .b c8, .b c9, .i .u8 (IntKind.u8.wrap n)]) (s c0 c2 c10 n c1 c3 c4 c5 c6 c7 c8 c9 h nx) (nx + 2) ∧ ∀ id, id < nx → (s c0 c2 c10 n c1 c3 c4 c5 c6 c7 c8 c9 h nx).get id = h.get id := sk9 hXs lim
  apply Exists.intro
  apply And.intro
  case h.left =>
    apply Cl.eq
    case a =>
      apply Cl.body (m := 1) hX Tryd.func22 rfl (fun _ => rfl) rfl
      case hc =>
        repeat' (first
          | exact Ev.ret
          | apply Ev.loop2
          | exact Ev.skip
          | exact Ev.exit
          | exact Ev.label
          | exact Ex.exi_ne
          | exact Ex.ret_ne
          | exact Ex.got_ne
          | exact Or.inl ⟨Ex.exi_ne, rfl, rfl, rfl, rfl⟩
          | exact Or.inl ⟨Ex.ret_ne, rfl, rfl, rfl, rfl⟩
          | exact Or.inl ⟨Ex.got_ne, rfl, rfl, rfl, rfl⟩
          | refine Or.inr ⟨rfl, ?_⟩
          | exact Or.inl ⟨rfl, rfl⟩
          | exact Or.inr ⟨Ex.nor_other, rfl⟩
          | exact Or.inr ⟨Ex.ret_other, rfl⟩
          | exact Or.inr ⟨Ex.exi_other rfl, rfl⟩
          | exact Or.inr ⟨Ex.got_other, rfl⟩
          | apply Ev.region rfl
          | apply Ev.seq2
          | apply Ev.block3
          | apply Ev.cond_t (fun _ => rfl) (by first | rfl | assumption | (simp [*]; done) | (simp; omega))
          | apply Ev.cond_f (fun _ => rfl) (by first | rfl | assumption | (simp [*]; done) | (simp; omega))
          | exact Sq.nil
          | exact Dr.nil
          | apply Sq.op (by first | rfl | (show (_ == _ : Bool) = true; first | rfl | (simp [*]; done) | (simp; omega))) (Op1.call rfl (fun _ => rfl) (fun _ => rfl) (hs0 _ _ _ _ _ _ _ _ _ _ _ _ _ _ (by omega)).1) (fun _ => rfl)
          | apply Sq.op (by first | rfl | (show (_ == _ : Bool) = true; first | rfl | (simp [*]; done) | (simp; omega))) (Op1.call rfl (fun _ => rfl) (fun _ => rfl) (hs1 _ _ _ _ _ _ _ _ _ _ _ _ _ _ (by omega)).1) (fun _ => rfl)
          | apply Sq.op (by first | rfl | (show (_ == _ : Bool) = true; first | rfl | (simp [*]; done) | (simp; omega))) (Op1.call rfl (fun _ => rfl) (fun _ => rfl) (hs2 _ _ _ _ _ _ _ _ _ _ _ _ _ _ (by omega)).1) (fun _ => rfl)
          | apply Sq.op (by first | rfl | (show (_ == _ : Bool) = true; first | rfl | (simp [*]; done) | (simp; omega))) (Op1.call rfl (fun _ => rfl) (fun _ => rfl) (hs3 _ _ _ _ _ _ _ _ _ _ _ _ _ _ (by omega)).1) (fun _ => rfl)
          | apply Sq.op (by first | rfl | (show (_ == _ : Bool) = true; first | rfl | (simp [*]; done) | (simp; omega))) (Op1.call rfl (fun _ => rfl) (fun _ => rfl) (hs4 _ _ _ _ _ _ _ _ _ _ _ _ _ _ (by omega)).1) (fun _ => rfl)
          | apply Sq.op (by first | rfl | (show (_ == _ : Bool) = true; first | rfl | (simp [*]; done) | (simp; omega))) (Op1.call rfl (fun _ => rfl) (fun _ => rfl) (hs5 _ _ _ _ _ _ _ _ _ _ _ _ _ _ (by omega)).1) (fun _ => rfl)
          | apply Sq.op (by first | rfl | (show (_ == _ : Bool) = true; first | rfl | (simp [*]; done) | (simp; omega))) (Op1.call rfl (fun _ => rfl) (fun _ => rfl) (hs6 _ _ _ _ _ _ _ _ _ _ _ _ _ _ (by omega)).1) (fun _ => rfl)
          | apply Sq.op (by first | rfl | (show (_ == _ : Bool) = true; first | rfl | (simp [*]; done) | (simp; omega))) (Op1.call rfl (fun _ => rfl) (fun _ => rfl) (hs7 _ _ _ _ _ _ _ _ _ _ _ _ _ _ (by omega)).1) (fun _ => rfl)
          | apply Sq.op (by first | rfl | (show (_ == _ : Bool) = true; first | rfl | (simp [*]; done) | (simp; omega))) (Op1.call rfl (fun _ => rfl) (fun _ => rfl) (hs8 _ _ _ _ _ _ _ _ _ _ _ _ _ _ (by omega)).1) (fun _ => rfl)
          | apply Sq.op (by first | rfl | (show (_ == _ : Bool) = true; first | rfl | (simp [*]; done) | (simp; omega))) (Op1.call rfl (fun _ => rfl) (fun _ => rfl) (hs9 _ _ _ _ _ _ _ _ _ _ _ _ _ _ (by omega)).1) (fun _ => rfl)
          | apply Sq.op (by first | rfl | (show (_ == _ : Bool) = true; first | rfl | (simp [*]; done) | (simp; omega))) (bin_add_z (by first | exact c_int | exact fun _ => rfl) (by first | exact c_int | exact fun _ => rfl) (show IntKind.i64.wrap (0 + 1) = 1 from rfl)) (fun _ => rfl)
          | apply Sq.op (by first | rfl | (show (_ == _ : Bool) = true; first | rfl | (simp [*]; done) | (simp; omega))) (bin_add_z (by first | exact c_int | exact fun _ => rfl) (by first | exact c_int | exact fun _ => rfl) (show IntKind.i64.wrap (1 + 1) = 2 from rfl)) (fun _ => rfl)
          | apply Sq.op (by first | rfl | (show (_ == _ : Bool) = true; first | rfl | (simp [*]; done) | (simp; omega))) (bin_add_z (by first | exact c_int | exact fun _ => rfl) (by first | exact c_int | exact fun _ => rfl) (show IntKind.i64.wrap (2 + 1) = 3 from rfl)) (fun _ => rfl)
          | apply Sq.op (by first | rfl | (show (_ == _ : Bool) = true; first | rfl | (simp [*]; done) | (simp; omega))) (bin_add_z (by first | exact c_int | exact fun _ => rfl) (by first | exact c_int | exact fun _ => rfl) (show IntKind.i64.wrap (3 + 1) = 4 from rfl)) (fun _ => rfl)
          | apply Sq.op (by first | rfl | (show (_ == _ : Bool) = true; first | rfl | (simp [*]; done) | (simp; omega))) (bin_add_z (by first | exact c_int | exact fun _ => rfl) (by first | exact c_int | exact fun _ => rfl) (show IntKind.i64.wrap (4 + 1) = 5 from rfl)) (fun _ => rfl)
          | apply Sq.op (by first | rfl | (show (_ == _ : Bool) = true; first | rfl | (simp [*]; done) | (simp; omega))) (bin_add_z (by first | exact c_int | exact fun _ => rfl) (by first | exact c_int | exact fun _ => rfl) (show IntKind.i64.wrap (5 + 1) = 6 from rfl)) (fun _ => rfl)
          | apply Sq.op (by first | rfl | (show (_ == _ : Bool) = true; first | rfl | (simp [*]; done) | (simp; omega))) (bin_add_z (by first | exact c_int | exact fun _ => rfl) (by first | exact c_int | exact fun _ => rfl) (show IntKind.i64.wrap (6 + 1) = 7 from rfl)) (fun _ => rfl)
          | apply Sq.op (by first | rfl | (show (_ == _ : Bool) = true; first | rfl | (simp [*]; done) | (simp; omega))) (bin_add_z (by first | exact c_int | exact fun _ => rfl) (by first | exact c_int | exact fun _ => rfl) (show IntKind.i64.wrap (7 + 1) = 8 from rfl)) (fun _ => rfl)
          | apply Sq.op (by first | rfl | (show (_ == _ : Bool) = true; first | rfl | (simp [*]; done) | (simp; omega))) (bin_add_z (by first | exact c_int | exact fun _ => rfl) (by first | exact c_int | exact fun _ => rfl) (show IntKind.i64.wrap (8 + 1) = 9 from rfl)) (fun _ => rfl)
          | apply Sq.op (by first | rfl | (show (_ == _ : Bool) = true; first | rfl | (simp [*]; done) | (simp; omega))) (bin_add_z (by first | exact c_int | exact fun _ => rfl) (by first | exact c_int | exact fun _ => rfl) (show IntKind.i64.wrap (9 + 1) = 10 from rfl)) (fun _ => rfl)
          | apply Sq.op (by first | rfl | (show (_ == _ : Bool) = true; first | rfl | (simp [*]; done) | (simp; omega))) (bin_lss_z (z := true) (by first | exact c_int | exact fun _ => rfl) (by first | exact c_int | exact fun _ => rfl) rfl) (fun _ => rfl)
          | apply Sq.op (by first | rfl | (show (_ == _ : Bool) = true; first | rfl | (simp [*]; done) | (simp; omega))) (bin_lss_z (z := false) (by first | exact c_int | exact fun _ => rfl) (by first | exact c_int | exact fun _ => rfl) rfl) (fun _ => rfl)
          | apply Sq.op (by first | rfl | (show (_ == _ : Bool) = true; first | rfl | (simp [*]; done) | (simp; omega))) (bin_shr_v (fun _ => rfl) (fun _ => rfl) (by decide)) (fun _ => rfl)
          | (show Sq _ _ _ _ _ ({ dst := _, op := .load _ _, type := _, pos := _, after := _, guard := _ } :: _) _ _ _ _ _ _; apply Sq.op (by first | rfl | (show (_ == _ : Bool) = true; first | rfl | (simp [*]; done) | (simp; omega))) (Op1.load (fun _ => rfl) (by (repeat (first | rw [Tr.get_ne _ _ (by omega)] | rw [(hs0 _ _ _ _ _ _ _ _ _ _ _ _ _ _ (by omega)).2 _ (by omega)] | rw [(hs1 _ _ _ _ _ _ _ _ _ _ _ _ _ _ (by omega)).2 _ (by omega)] | rw [(hs2 _ _ _ _ _ _ _ _ _ _ _ _ _ _ (by omega)).2 _ (by omega)] | rw [(hs3 _ _ _ _ _ _ _ _ _ _ _ _ _ _ (by omega)).2 _ (by omega)] | rw [(hs4 _ _ _ _ _ _ _ _ _ _ _ _ _ _ (by omega)).2 _ (by omega)] | rw [(hs5 _ _ _ _ _ _ _ _ _ _ _ _ _ _ (by omega)).2 _ (by omega)] | rw [(hs6 _ _ _ _ _ _ _ _ _ _ _ _ _ _ (by omega)).2 _ (by omega)] | rw [(hs7 _ _ _ _ _ _ _ _ _ _ _ _ _ _ (by omega)).2 _ (by omega)] | rw [(hs8 _ _ _ _ _ _ _ _ _ _ _ _ _ _ (by omega)).2 _ (by omega)] | rw [(hs9 _ _ _ _ _ _ _ _ _ _ _ _ _ _ (by omega)).2 _ (by omega)])); first | assumption | exact Tr.get_same _ _ _) (by exact fun _ => rfl)) (fun _ => rfl))
          | (show Sq _ _ _ _ _ ({ dst := _, op := .store _ _ _, type := _, pos := _, after := _, guard := _ } :: _) _ _ _ _ _ _; apply Sq.op (by first | rfl | (show (_ == _ : Bool) = true; first | rfl | (simp [*]; done) | (simp; omega))) (Op1.store (fun _ => rfl) (fun _ => rfl) (fun _ => rfl) rfl (by exact Nat.succ_pos _) (by omega) rfl (by (repeat (first | rw [Tr.get_ne _ _ (by omega)] | rw [(hs0 _ _ _ _ _ _ _ _ _ _ _ _ _ _ (by omega)).2 _ (by omega)] | rw [(hs1 _ _ _ _ _ _ _ _ _ _ _ _ _ _ (by omega)).2 _ (by omega)] | rw [(hs2 _ _ _ _ _ _ _ _ _ _ _ _ _ _ (by omega)).2 _ (by omega)] | rw [(hs3 _ _ _ _ _ _ _ _ _ _ _ _ _ _ (by omega)).2 _ (by omega)] | rw [(hs4 _ _ _ _ _ _ _ _ _ _ _ _ _ _ (by omega)).2 _ (by omega)] | rw [(hs5 _ _ _ _ _ _ _ _ _ _ _ _ _ _ (by omega)).2 _ (by omega)] | rw [(hs6 _ _ _ _ _ _ _ _ _ _ _ _ _ _ (by omega)).2 _ (by omega)] | rw [(hs7 _ _ _ _ _ _ _ _ _ _ _ _ _ _ (by omega)).2 _ (by omega)] | rw [(hs8 _ _ _ _ _ _ _ _ _ _ _ _ _ _ (by omega)).2 _ (by omega)] | rw [(hs9 _ _ _ _ _ _ _ _ _ _ _ _ _ _ (by omega)).2 _ (by omega)])); first | assumption | exact Tr.get_same _ _ _) (by first | decide | omega) (by exact fun _ => rfl)) (fun _ => rfl))
          | apply Sq.op (by first | rfl | (show (_ == _ : Bool) = true; first | rfl | (simp [*]; done) | (simp; omega))) (Op1.alloc (fun _ => rfl)) (fun _ => rfl)
          | apply Sq.op (by first | rfl | (show (_ == _ : Bool) = true; first | rfl | (simp [*]; done) | (simp; omega))) (Op1.box (fun _ => rfl)) (fun _ => rfl)
          | apply Sq.out (by first | rfl | (show (_ == _ : Bool) = false; first | rfl | (simp [*]; done) | (simp; omega))) (fun _ => rfl)
          | apply Sq.op (by first | rfl | (show (_ == _ : Bool) = true; first | rfl | (simp [*]; done) | (simp; omega))) Op1.move_c (fun _ => rfl)
          | apply Sq.op (by first | rfl | (show (_ == _ : Bool) = true; first | rfl | (simp [*]; done) | (simp; omega))) Op1.assign_c (fun _ => rfl)
          | apply Sq.op (by first | rfl | (show (_ == _ : Bool) = true; first | rfl | (simp [*]; done) | (simp; omega))) (bin_add (by first | exact c_int | exact fun _ => rfl) (by first | exact c_int | exact fun _ => rfl)) (fun _ => rfl)
          | apply Sq.op (by first | rfl | (show (_ == _ : Bool) = true; first | rfl | (simp [*]; done) | (simp; omega))) (bin_sub (by first | exact c_int | exact fun _ => rfl) (by first | exact c_int | exact fun _ => rfl)) (fun _ => rfl)
          | apply Sq.op (by first | rfl | (show (_ == _ : Bool) = true; first | rfl | (simp [*]; done) | (simp; omega))) (bin_mul (by first | exact c_int | exact fun _ => rfl) (by first | exact c_int | exact fun _ => rfl)) (fun _ => rfl)
          | apply Sq.op (by first | rfl | (show (_ == _ : Bool) = true; first | rfl | (simp [*]; done) | (simp; omega))) (bin_and (by first | exact c_int | exact fun _ => rfl) (by first | exact c_int | exact fun _ => rfl)) (fun _ => rfl)
          | apply Sq.op (by first | rfl | (show (_ == _ : Bool) = true; first | rfl | (simp [*]; done) | (simp; omega))) (bin_or (by first | exact c_int | exact fun _ => rfl) (by first | exact c_int | exact fun _ => rfl)) (fun _ => rfl)
          | apply Sq.op (by first | rfl | (show (_ == _ : Bool) = true; first | rfl | (simp [*]; done) | (simp; omega))) (bin_xor (by first | exact c_int | exact fun _ => rfl) (by first | exact c_int | exact fun _ => rfl)) (fun _ => rfl)
          | apply Sq.op (by first | rfl | (show (_ == _ : Bool) = true; first | rfl | (simp [*]; done) | (simp; omega))) (bin_eql (by first | exact c_int | exact fun _ => rfl) (by first | exact c_int | exact fun _ => rfl)) (fun _ => rfl)
          | apply Sq.op (by first | rfl | (show (_ == _ : Bool) = true; first | rfl | (simp [*]; done) | (simp; omega))) (bin_neq (by first | exact c_int | exact fun _ => rfl) (by first | exact c_int | exact fun _ => rfl)) (fun _ => rfl)
          | apply Sq.op (by first | rfl | (show (_ == _ : Bool) = true; first | rfl | (simp [*]; done) | (simp; omega))) (bin_lss (by first | exact c_int | exact fun _ => rfl) (by first | exact c_int | exact fun _ => rfl)) (fun _ => rfl)
          | apply Sq.op (by first | rfl | (show (_ == _ : Bool) = true; first | rfl | (simp [*]; done) | (simp; omega))) (bin_gtr (by first | exact c_int | exact fun _ => rfl) (by first | exact c_int | exact fun _ => rfl)) (fun _ => rfl)
          | apply Sq.op (by first | rfl | (show (_ == _ : Bool) = true; first | rfl | (simp [*]; done) | (simp; omega))) (bin_leq (by first | exact c_int | exact fun _ => rfl) (by first | exact c_int | exact fun _ => rfl)) (fun _ => rfl)
          | apply Sq.op (by first | rfl | (show (_ == _ : Bool) = true; first | rfl | (simp [*]; done) | (simp; omega))) (bin_geq (by first | exact c_int | exact fun _ => rfl) (by first | exact c_int | exact fun _ => rfl)) (fun _ => rfl)
          | apply Sq.op (by first | rfl | (show (_ == _ : Bool) = true; first | rfl | (simp [*]; done) | (simp; omega))) (bin_quo (by first | exact c_int | exact fun _ => rfl) (by first | exact c_int | exact fun _ => rfl) (by decide)) (fun _ => rfl)
          | apply Sq.op (by first | rfl | (show (_ == _ : Bool) = true; first | rfl | (simp [*]; done) | (simp; omega))) (bin_rem (by first | exact c_int | exact fun _ => rfl) (by first | exact c_int | exact fun _ => rfl) (by decide)) (fun _ => rfl)
          | apply Sq.op (by first | rfl | (show (_ == _ : Bool) = true; first | rfl | (simp [*]; done) | (simp; omega))) (bin_shl (by first | exact c_int | exact fun _ => rfl) (by first | exact c_int | exact fun _ => rfl) (by decide)) (fun _ => rfl)
          | apply Sq.op (by first | rfl | (show (_ == _ : Bool) = true; first | rfl | (simp [*]; done) | (simp; omega))) (bin_shr (by first | exact c_int | exact fun _ => rfl) (by first | exact c_int | exact fun _ => rfl) (by decide)) (fun _ => rfl)
          | apply Sq.op (by first | rfl | (show (_ == _ : Bool) = true; first | rfl | (simp [*]; done) | (simp; omega))) (str_eql (by first | exact c_int | exact fun _ => rfl) (by first | exact c_int | exact fun _ => rfl)) (fun _ => rfl)
          | apply Sq.op (by first | rfl | (show (_ == _ : Bool) = true; first | rfl | (simp [*]; done) | (simp; omega))) (str_neq (by first | exact c_int | exact fun _ => rfl) (by first | exact c_int | exact fun _ => rfl)) (fun _ => rfl)
          | apply Sq.op (by first | rfl | (show (_ == _ : Bool) = true; first | rfl | (simp [*]; done) | (simp; omega))) (Op1.pure fun _ _ => rfl) (fun _ => rfl)
          | apply Sq.op (by first | rfl | (show (_ == _ : Bool) = true; first | rfl | (simp [*]; done) | (simp; omega))) (un_not (fun _ => rfl)) (fun _ => rfl)
          | apply Sq.op (by first | rfl | (show (_ == _ : Bool) = true; first | rfl | (simp [*]; done) | (simp; omega))) (Op1.pick_t (fun _ => rfl) (by first | rfl | assumption | (simp [*]; done) | (simp; omega)) (fun _ => rfl)) (fun _ => rfl)
          | apply Sq.op (by first | rfl | (show (_ == _ : Bool) = true; first | rfl | (simp [*]; done) | (simp; omega))) (Op1.pick_f (fun _ => rfl) (by first | rfl | assumption | (simp [*]; done) | (simp; omega)) (fun _ => rfl)) (fun _ => rfl))
      case he => exact .inr rfl
      case hr => exact res_cell (fun _ => rfl) (by first | assumption | exact Tr.get_same _ _ _ | (rw [Tr.get_ne _ _ (by omega)]; first | assumption | exact Tr.get_same _ _ _ | (rw [Tr.get_ne _ _ (by omega)]; first | assumption | exact Tr.get_same _ _ _ | (rw [Tr.get_ne _ _ (by omega)]; first | assumption | exact Tr.get_same _ _ _ | (rw [Tr.get_ne _ _ (by omega)]; first | assumption | exact Tr.get_same _ _ _))))) (by exact fun _ => rfl) res_nil
      case ho => exact fun _ => rfl
    case hv => rfl
  case h.right =>
    intro id hid
    repeat (first | rw [Tr.get_ne _ _ (by omega)] | rw [(hs0 _ _ _ _ _ _ _ _ _ _ _ _ _ _ (by omega)).2 _ (by omega)] | rw [(hs1 _ _ _ _ _ _ _ _ _ _ _ _ _ _ (by omega)).2 _ (by omega)] | rw [(hs2 _ _ _ _ _ _ _ _ _ _ _ _ _ _ (by omega)).2 _ (by omega)] | rw [(hs3 _ _ _ _ _ _ _ _ _ _ _ _ _ _ (by omega)).2 _ (by omega)] | rw [(hs4 _ _ _ _ _ _ _ _ _ _ _ _ _ _ (by omega)).2 _ (by omega)] | rw [(hs5 _ _ _ _ _ _ _ _ _ _ _ _ _ _ (by omega)).2 _ (by omega)] | rw [(hs6 _ _ _ _ _ _ _ _ _ _ _ _ _ _ (by omega)).2 _ (by omega)] | rw [(hs7 _ _ _ _ _ _ _ _ _ _ _ _ _ _ (by omega)).2 _ (by omega)] | rw [(hs8 _ _ _ _ _ _ _ _ _ _ _ _ _ _ (by omega)).2 _ (by omega)] | rw [(hs9 _ _ _ _ _ _ _ _ _ _ _ _ _ _ (by omega)).2 _ (by omega)])
end Clo
end Go.Proofs.YtlcggjaogbclkaaDoor
