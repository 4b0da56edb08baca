import Derived.Test.YthjoadiagnngiabDoorBase
import Derived.Deep.SlicePairs
namespace Go.Proofs.YthjoadiagnngiabDoor
open Go.RowKit Go.ChangeShapes Go.WideShapes
set_option linter.unusedVariables false

/-- a slice of structs of two integers that came in: what each element holds -/
def IsPairs (k0 k1 : IntKind) (w : World) (a : Option Addr) (len : Nat) : Prop :=
  ∀ i, i < len → ∃ (ad : Addr) (n0 n1 : Int), a = some ad ∧ ad.block < w.heap.size ∧ w.cell? (ad.add (i * 2)) = some (.int k0 n0) ∧ w.cell? (ad.add (i * 2 + 1)) = some (.int k1 n1) ∧ (Lit.int k0 n0).wf = true ∧ (Lit.int k1 n1).wf = true

section
variable {H : Type} {enc : TypeId × Value → H} {P : Program} {w : World} {base : Nat} {spare : Nat → Bool} {held : Bool}
theorem pairs_open {t e : TypeId} {f0 f1 : Field} {k0 k1 : IntKind} {a : Option Addr} {len cap : Nat} {d : DataW H} {p : List MemPlace} (ht : P.underlying t = some (.slice e)) (he : P.underlying e = some (.struct #[f0, f1]))
    (ce : P.cellsOf e = 2) (o0 : f0.offset = 0) (o1 : f1.offset = 1) (c0 : P.cellsOf f0.type = 1) (c1 : P.cellsOf f1.type = 1) (u0 : P.underlying f0.type = some (.int k0)) (u1 : P.underlying f1.type = some (.int k1))
    (h : DataW.Trod enc P w base spare held t (.slice a len cap) d p) : IsPairs k0 k1 w a len := by
  obtain ⟨fuel, hf⟩ := h
  rcases Deep.open_slice_pairs ht he ce o0 o1 c0 c1 hf with ⟨hcs, _⟩ | ⟨x, l, c, m, n, V0, V1, D0, D1, P0, P1, hcs, _, hl, _, hm, _, hx⟩
  · simp [Value.cells] at hcs
    obtain ⟨rfl, rfl, rfl⟩ := hcs
    intro i hi; omega
  · simp [Value.cells] at hcs
    obtain ⟨rfl, rfl, rfl⟩ := hcs
    intro i hi
    obtain ⟨h1, h2, h3, h4⟩ := hx i (by rw [hm]; split <;> omega)
    obtain ⟨n0, e0, _, w0⟩ := DataW.trod_int u0 h3
    obtain ⟨n1, e1, _, w1⟩ := DataW.trod_int u1 h4
    simp at e0 e1
    have hlt := World.block_lt_of_cell? _ _ h1
    rw [show (x.add (i * 2)).block = x.block from by unfold Addr.add; split <;> rfl] at hlt
    exact ⟨x, n0, n1, rfl, hlt, by rw [h1, e0], by rw [h2, e1], w0, w1⟩
end
end Go.Proofs.YthjoadiagnngiabDoor
