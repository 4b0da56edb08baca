/-
  hustingslaw03.unlike: of two heads that differ in one part, 1.
-/
import Derived.Test.YtlcggjaogbclkaaDoorHdB
namespace Go.Proofs.YtlcggjaogbclkaaDoor
namespace Clo
open Go.RowKit
set_option linter.unusedVariables false
set_option maxRecDepth 10000
set_option maxHeartbeats 64000000
variable {X : XT}
section
variable {P : Program} {lim : Nat} {fr : Fr} {h : T} {nx : Nat}
theorem Op1.buildSlice {t e : TypeId} {n len : Nat} {parts : Array (Nat × Operand)} {z : AV} {cs : List AV} (hu : P.underlying t = some (.slice e)) (hs : ∀ k, sizeK P e k = k n) (hl : Nat.ble (Nat.mul len n) 16777216 = true) (hz : ∀ k, zeroK P e k = k z) (hzn : z.cells.length = n)
    (hf : ∀ k : List AV → Out, (repsK len z.cells [] fun cs => fillK (fun i k => fN (Nat.mul i n) fun o => k o n) fr parts.toList cs k) = k cs) : Op1 P X lim (.buildSlice t len parts) fr h nx (.sl nx 0 len len) (h.set nx (some (.c cs 0 0 (some e)))) (nx + 1) := Op1.pure fun call k => by
  show fN len (fun n => buildSliceK P fr h nx t n parts.toList k) = _
  rw [fN_eq]
  unfold buildSliceK
  rw [hu]
  simp only [hs, hl, hz]
  rw [lenK_eq, Nat.zero_add, beq_iff.2 hzn]
  simp only
  rw [hf]
  unfold newK
  rw [Tr.setK_eq, fN_eq]
theorem neq_same {a b : Operand} {t pos : TypeId} {kd : IntKind} {x : Int} (ha : ∀ k, opdK fr a k = k (.i kd x)) (hb : ∀ k, opdK fr b k = k (.i kd x)) : Op1 P X lim (.binOp .neq t a b pos) fr h nx (.b false) h nx := by
  have := bin_neq (P := P) (X := X) (lim := lim) (h := h) (nx := nx) (t := t) (pos := pos) ha hb
  rwa [show (x != x) = false from by simp] at this
theorem neq_one {a b : Operand} {t pos : TypeId} {kd : IntKind} {x y : Int} (ha : ∀ k, opdK fr a k = k (.i kd x)) (hb : ∀ k, opdK fr b k = k (.i kd y)) (hz : (x != y) = true) : Op1 P X lim (.binOp .neq t a b pos) fr h nx (.b true) h nx := by
  have := bin_neq (P := P) (X := X) (lim := lim) (h := h) (nx := nx) (t := t) (pos := pos) ha hb
  rwa [hz] at this
theorem bneq_same {a b : Operand} {t pos : TypeId} {x : Bool} (ht : P.underlying t = some .bool) (ha : ∀ k, opdK fr a k = k (.b x)) (hb : ∀ k, opdK fr b k = k (.b x)) : Op1 P X lim (.binOp .neq t a b pos) fr h nx (.b false) h nx := bin_bool ht ha hb (.inr ⟨rfl, by simp⟩)
theorem bneq_one {a b : Operand} {t pos : TypeId} {x y : Bool} (ht : P.underlying t = some .bool) (ha : ∀ k, opdK fr a k = k (.b x)) (hb : ∀ k, opdK fr b k = k (.b y)) (hz : (x == y) = false) : Op1 P X lim (.binOp .neq t a b pos) fr h nx (.b true) h nx := bin_bool ht ha hb (.inr ⟨rfl, by rw [hz]; rfl⟩)
end
end Clo
end Go.Proofs.YtlcggjaogbclkaaDoor
