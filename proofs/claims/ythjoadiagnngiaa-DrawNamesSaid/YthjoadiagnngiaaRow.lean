import Derived.Test.YthjoadiagnngiaaAwake
namespace Go.Proofs.Ythjoadiagnngiaa
open Go.RowKit
set_option linter.unusedVariables false

theorem IsRow.below {k : IntKind} {w w' : World} {a : Option Addr} {len cap : Nat} {zs : List Int} (h : IsRow k w a len cap zs) (hb : Below w.heap.size w w') : IsRow k w' a len cap zs := by
  rcases h with h | ⟨x, hx, h1, h2, h3, h4, h5⟩
  · exact .inl h
  · exact .inr ⟨x, hx, h1, h2, h3, fun i hi => (hb.cell (World.block_lt_of_cell? _ _ (h4 i hi))).trans (h4 i hi), h5⟩

/-- an element's cell -/
theorem IsRow.cell {k : IntKind} {w : World} {a : Option Addr} {len cap : Nat} {zs : List Int} (h : IsRow k w a len cap zs) (hl : 0 < len) :
    ∃ b o, a = some ⟨b, o, none⟩ ∧ b < w.heap.size ∧ ∀ i, i < len → w.cell? ⟨b, o + i, none⟩ = some (.int k (zs.getD i 0)) := by
  rcases h with ⟨_, rfl, _⟩ | ⟨⟨b, o, spot⟩, rfl, h1, h2, h3, h4, h5⟩
  · omega
  · have hc := h4 0 (by omega)
    have hs : spot = none := by simpa [Addr.add] using World.cell?_spot hc
    subst hs
    refine ⟨b, o, rfl, by simpa [Addr.add] using World.block_lt_of_cell? _ _ hc, fun i hi => ?_⟩
    have := h4 i (by omega)
    rwa [Addr.add_lit] at this

def firstOf (len : Nat) (zs : List Int) : List Nat := (zs.take len).map Int.toNat
theorem IsRow.len {k : IntKind} {w : World} {a : Option Addr} {len cap : Nat} {zs : List Int} (h : IsRow k w a len cap zs) : len ≤ zs.length := by
  rcases h with ⟨_, rfl, _⟩ | ⟨x, _, h1, _, h3, _⟩ <;> omega
theorem firstOf_len {k : IntKind} {w : World} {a : Option Addr} {len cap : Nat} {zs : List Int} (h : IsRow k w a len cap zs) : (firstOf len zs).length = len := by
  have := h.len; simp [firstOf]; omega
theorem IsRow.nonneg {w : World} {a : Option Addr} {len cap : Nat} {zs : List Int} (h : IsRow .u64 w a len cap zs) (i : Nat) (hi : i < len) : zs.getD i 0 = ((firstOf len zs).getD i 0 : Nat) ∧ 0 ≤ zs.getD i 0 := by
  have hl := h.len
  have hm : zs.getD i 0 ∈ zs := by rw [List.getD_eq_getElem?_getD, List.getElem?_eq_getElem (by omega)]; exact List.getElem_mem _
  have h0 : 0 ≤ zs.getD i 0 := by
    rcases h with ⟨_, rfl, _⟩ | ⟨x, _, h1, _, h3, _, h5⟩
    · omega
    · exact (wf_u64 (h5 _ hm)).1
  refine ⟨?_, h0⟩
  have e : (firstOf len zs).getD i 0 = (zs.getD i 0).toNat := by
    simp [firstOf, List.getD_eq_getElem?_getD, List.getElem?_map, hi, List.getElem?_eq_getElem (show i < zs.length by omega)]
  rw [e]; omega

theorem new_row (seed : Nat) (a : Option Addr) (len cap : Nat) (zs : List Int) (w : World) (hs : seed < 18446744073709551616) (h : IsRow .u64 w a len cap zs) (hl : len ≤ 2000) :
    Calls Try.prog 11 #[.int .u64 (seed : Int), .slice a len cap] w fun e w' => ∃ p, e = .returned (.pointer (some ⟨p, 0, none⟩)) ∧ Tape w' p seed (firstOf len zs) 0 ∧ w.grownBy w' none ∧ w.heap.size ≤ p := by
  have hlen := firstOf_len h
  have hn := h.nonneg
  rcases h with ⟨rfl, rfl, rfl, rfl⟩ | ⟨x, rfl, h1, h2, h3, h4, h5⟩
  · exact new_nil seed w hs
  · have := new_some seed (firstOf len zs) x cap w hs ?_ (by omega)
    · rw [hlen] at this; exact this
    · intro j u hj
      have hjl : j < len := by
        have := (List.getElem?_eq_some_iff.1 hj).1
        rw [u64s_len, hlen] at this; exact this
      rw [h4 j (by omega)]
      have : (u64s (firstOf len zs))[j]? = some (.int .u64 ((firstOf len zs).getD j 0 : Nat)) := by
        simp [u64s, List.getElem?_map, List.getElem?_eq_getElem (show j < (firstOf len zs).length by omega)]
      rw [this] at hj
      rw [← Option.some.inj hj, (hn j hjl).1]

theorem new_own (seed : Nat) (first : List Nat) (base n : Nat) (v : Value) (w : World) (hs : seed < 18446744073709551616) (h : w.ownsRow base 22 1 v n (u64s first)) (hl : n ≤ 2000) :
    Calls Try.prog 11 #[.int .u64 (seed : Int), v] w fun e w' => ∃ p, e = .returned (.pointer (some ⟨p, 0, none⟩)) ∧ Tape w' p seed first 0 ∧ w.grownBy w' none ∧ w.heap.size ≤ p := by
  have hn : first.length = n := by have := h.1; rw [u64s_len] at this; omega
  rcases h.2 with ⟨rfl, h0⟩ | ⟨g, cap, cur, rfl, _⟩
  · have : first = [] := List.eq_nil_of_length_eq_zero (by omega)
    subst this
    exact new_nil seed w hs
  · have := new_some seed first ⟨g, 0, none⟩ cap w hs (fun j u hj => by
      have hj2 := (List.getElem?_eq_some_iff.1 hj).1
      rw [u64s_len] at hj2
      rw [Addr.add_lit, Nat.zero_add, h.cellAt j (by omega)]; exact hj) (by omega)
    rw [hn] at this
    exact this

theorem Tape.drew {w : World} {p seed : Nat} {first : List Nat} {u : Nat} (h : Tape w p seed first u) : Tape w.drew p seed first u := h.grown (grown_drew w none)
theorem Tape.drewN {w : World} {p seed : Nat} {first : List Nat} {u : Nat} (h : Tape w p seed first u) (n : Nat) : Tape (w.drewN n) p seed first u := h.grown (grown_drewN w n none)
theorem Tape.lt {w : World} {p seed : Nat} {first : List Nat} {u : Nat} (h : Tape w p seed first u) : p < w.heap.size := by obtain ⟨_, h, _⟩ := h; exact lt_of_block h
theorem draw_first (seed : Nat) (first : List Nat) (i : Nat) (h : i < first.length) : drawAt seed first i = first.getD i 0 := by unfold drawAt; rw [if_pos h]
theorem draw_nil' (seed k : Nat) : drawAt seed [] k = mixN ((seed + (k + 1) * st) % 18446744073709551616) := by
  unfold drawAt; rw [if_neg (by simp)]; simp
theorem draw_tail (seed : Nat) (first : List Nat) (i : Nat) : drawAt seed first (first.length + i) = drawAt seed [] i := by
  rw [draw_nil']
  unfold drawAt; rw [if_neg (by omega)]; simp
end Go.Proofs.Ythjoadiagnngiaa
