/-
  Runs at whatever arguments: rows that came in.
-/
import Derived.Test.YthghohgjedjpbaaCluF3
import Derived.Deep.SlicePairs
import Derived.WideShapes
import Derived.ChangeShapes
namespace Go.Proofs.Ythghohgjedjpbaa
namespace Clu
open Go.RowKit
set_option linter.unusedVariables false
variable {P : Program}
/-- rows that came in: no cell of them is written -/
def argB (al : List (Nat × List AV)) : List (Nat × Blk) := al.map fun x => (x.1, .c x.2 1000000000000000000000 0 none)
theorem argB_mem {al : List (Nat × List AV)} {id : Nat} {b : Blk} (h : (id, b) ∈ argB al) : ∃ cs, (id, cs) ∈ al ∧ b = .c cs 1000000000000000000000 0 none := by
  obtain ⟨x, h1, h2⟩ := List.mem_map.1 h
  cases h2
  exact ⟨x.2, h1, rfl⟩
/-- where such a row lies -/
def ArgAt (w : World) (B O : Nat) (cs : List AV) : Prop := cs.length ≤ 1000000000000000000000 ∧ AV.flts cs = true ∧ B < w.heap.size ∧ (w.shape? B).isSome = true ∧ ∀ j a, cs[j]? = some a → ∃ x, w.cell? ⟨B, O + j, none⟩ = some x ∧ VR r0 a x
def argR (lim : Nat) (R : Nat → Nat × Nat) : Rn := fun id => if id < 1000 then some (id, 0, 0) else if id < lim then some ((R id).1, (R id).2, 0) else none
theorem flts_mem : ∀ {l : List AV} {j : Nat} {a : AV}, AV.flts l = true → l[j]? = some a → a.flt = true
  | [], j, a, _, h => by simp at h
  | c :: l, 0, a, hc, h => by
    simp only [AV.flts, Bool.and_eq_true] at hc
    cases h; exact hc.1
  | c :: l, j + 1, a, hc, h => by
    simp only [AV.flts, Bool.and_eq_true] at hc
    exact flts_mem hc.2 (by simpa using h)
theorem HR.args {w : World} {lim : Nat} {lays al : List (Nat × List AV)} {R : Nat → Nat × Nat} (h1000 : 1000 ≤ lim) (hl : ∀ g cs, (g, cs) ∈ lays → g < 1000 ∧ LaidAt w g cs) (ha : ∀ id cs, (id, cs) ∈ al → 1000 ≤ id ∧ id < lim ∧ ArgAt w (R id).1 (R id).2 cs) :
    HR (· < w.heap.size) lim (argR lim R) (mkH .e (argB al ++ layB lays)).get w := by
  have hm : ∀ id b, (mkH .e (argB al ++ layB lays)).get id = some b → (∃ cs, (id, cs) ∈ al ∧ b = .c cs 1000000000000000000000 0 none) ∨ ∃ cs, (id, cs) ∈ lays ∧ b = .c cs cs.length 0 none := fun id b hb => by
    have h1 : (id, b) ∈ argB al ++ layB lays := by
      rcases mkH_get (base := .e) (id := id) (l := argB al ++ layB lays) with ⟨b', h1, h2⟩ | ⟨_, h2⟩
      · rw [hb] at h2; cases h2; exact h1
      · rw [hb] at h2; cases (Tr.get_e id).symm.trans h2.symm
    rcases List.mem_append.1 h1 with h1 | h1
    · exact .inl (argB_mem h1)
    · exact .inr (layB_mem h1)
  have npd : ∀ id b, (mkH .e (argB al ++ layB lays)).get id = some b → ¬ b.pd := fun id b hb => by
    rcases hm id b hb with ⟨cs, _, rfl⟩ | ⟨cs, _, rfl⟩ <;> exact fun h => h
  have low : ∀ id b, 1000 ≤ lim → (mkH .e (argB al ++ layB lays)).get id = some b → id < lim := fun id b hlim hb => by
    rcases hm id b hb with ⟨cs, h1, _⟩ | ⟨cs, h1, _⟩
    · exact (ha id cs h1).2.1
    · have := (hl id cs h1).1; omega
  have low' : ∀ id b, (mkH .e (argB al ++ layB lays)).get id = some b → lim ≤ id → id < 1000 ∧ ∃ cs, (id, cs) ∈ lays ∧ b = .c cs cs.length 0 none := fun id b hb hid => by
    rcases hm id b hb with ⟨cs, h1, _⟩ | ⟨cs, h1, h2⟩
    · have := (ha id cs h1).2.1; omega
    · exact ⟨(hl id cs h1).1, cs, h1, h2⟩
  refine ⟨fun id b hb => ?_, fun id id' b b' x x' hS hb hb' hx hx' hxx => ?_, fun id b x hb hid hro hx hp => ?_, fun k hk => hk, fun g hg => if_pos hg⟩
  · rcases hm id b hb with ⟨cs, h1, rfl⟩ | ⟨cs, h1, rfl⟩
    · obtain ⟨h2, h3, h4, h5, h6, h7, h8⟩ := ha id cs h1
      refine ⟨(R id).1, (R id).2, 0, ?_, h6, fun j a hj => ?_, fun j h9 h10 => by omega, fun o h9 h10 => by omega, fun h => absurd rfl h, fun ty h => (by cases h), h7⟩
      · unfold argR; rw [if_neg (by omega), if_pos h3]
      · obtain ⟨x, x1, x2⟩ := h8 j a hj
        exact ⟨x, x1, VR.flt a x (flts_mem h5 hj) x2⟩
    · obtain ⟨h2, h3, h4⟩ := hl id cs h1
      obtain ⟨x, hx, _⟩ := h4 0 cs[0] (List.getElem?_eq_getElem h3)
      have hlt := World.block_lt_of_cell? _ _ hx
      refine ⟨id, 0, 0, if_pos h2, hlt, fun j a ha' => ?_, fun j h5 h6 => by omega, fun o h5 h6 => by omega, fun h => absurd rfl h, fun ty h => (by cases h), ?_⟩
      · obtain ⟨y, hy, hv⟩ := h4 j a ha'
        refine ⟨y, by rw [Nat.zero_add]; exact hy, VR.mono (fun g x hx => ?_) a y hv⟩
        unfold r0 at hx
        split at hx
        · cases hx; exact if_pos (by assumption)
        · cases hx
      · unfold World.cell? at hx
        unfold World.shape?
        split at hx
        · rename_i hc; simp [hc]
        · cases hx
  · by_cases h1 : id < 1000
    · by_cases h2 : id' < 1000
      · unfold argR at hx hx'
        rw [if_pos h1] at hx
        rw [if_pos h2] at hx'
        cases hx; cases hx'
        exact hxx
      · rcases hS with hS | hS | hS
        · rcases hm id' b' hb' with ⟨cs, h3, _⟩ | ⟨cs, h3, _⟩
          · have := (ha id' cs h3); omega
          · have := (hl id' cs h3).1; omega
        · have := (low' id' b' hb' hS).1; omega
        · exact absurd hS.1 (npd id b hb)
    · rcases hS with hS | hS | hS
      · have := (low' id b hb hS).1; omega
      · rcases hm id b hb with ⟨cs, h3, _⟩ | ⟨cs, h3, _⟩
        · have := (ha id cs h3); have := (low' id' b' hb' hS).1; omega
        · have := (hl id cs h3).1; omega
      · exact absurd hS.1 (npd id b hb)
  · have := (low' id b hb hid).1
    omega
theorem argB_bs {al : List (Nat × List AV)} {lays : List (Nat × List AV)} {lim nx : Nat} (hl : (lays.all fun x => Nat.blt x.1 1000 && AV.flts x.2) = true) (ha : ∀ x ∈ al, x.1 < lim ∧ AV.flts x.2 = true) (h1 : 1000 ≤ lim) (h2 : lim ≤ nx) : Bs lim nx (argB al ++ layB lays) := by
  have B := layB_bs (lim := lim) (nx := nx) hl h1 h2
  refine ⟨fun x hx => ?_, h2, fun x hx => ?_⟩
  · rcases List.mem_append.1 hx with hx | hx
    · obtain ⟨cs, q1, _⟩ := argB_mem (id := x.1) (b := x.2) hx
      exact (ha _ q1).1
    · exact B.low x hx
  · rcases List.mem_append.1 hx with hx | hx
    · obtain ⟨cs, q1, q2⟩ := argB_mem (id := x.1) (b := x.2) hx
      rw [q2]
      exact flts_unds (ha _ q1).2
    · exact B.und x hx
/-- what is true of a call whose run, from rows that came in and variables that are laid, comes to a truth -/
theorem calls_args {L : Code → Option LT} {X : XT} (hp : Plain P) (hX : XOK P X) (hm : P.follows .mixedOrders = true) (hL : LOK P L) {n lim : Nat} {f : FuncId} {fn : Func} {c : Code} {b : Bool} {lays al : List (Nat × List AV)} {R : Nat → Nat × Nat} (hf : P.funcs[f]? = some fn) (hb : fn.body = some c) (h1000 : 1000 ≤ lim)
    {args : List AV} {xs : List Value} (hx : VRs (argR lim R) args xs) (hk : runL L P X n lim f args (mkH .e (argB al ++ layB lays)) lim = .ok (.b b)) {w : World} (hl : ∀ g cs, (g, cs) ∈ lays → g < 1000 ∧ LaidAt w g cs) (ha : ∀ id cs, (id, cs) ∈ al → 1000 ≤ id ∧ id < lim ∧ ArgAt w (R id).1 (R id).2 cs) :
    Calls P f xs.toArray w fun e w' => e = .returned (.bool b) ∧ Below w.heap.size w w' := by
  have hT : Top lim (mkH .e (argB al ++ layB lays)) lim := ⟨Nat.le_refl _, fun j hj => by
    cases hg : (mkH .e (argB al ++ layB lays)).get j with
    | none => rfl
    | some b' =>
      rcases mkH_get (base := .e) (id := j) (l := argB al ++ layB lays) with ⟨b2, h1, h2⟩ | ⟨_, h2⟩
      · rcases List.mem_append.1 h1 with h1 | h1
        · obtain ⟨cs, q1, _⟩ := argB_mem h1
          have := (ha _ _ q1).2.1; omega
        · obtain ⟨cs, q1, _⟩ := layB_mem h1
          have := (hl _ _ q1).1; omega
      · rw [hg] at h2; cases (Tr.get_e j).symm.trans h2.symm⟩
  have := runL_from hp hX (drK_ok hm) hL hk (fun x h => by cases h) hT (HR.args h1000 hl ha) (fun id h1 => by unfold argR; rw [if_neg (by omega), if_neg (by omega)]) hx
  unfold CallSem at this
  rw [run_enter hp hf hb] at this
  refine Calls.mono this fun e w' he => ?_
  cases e with
  | returned z =>
    obtain ⟨⟨r, hr⟩, hb⟩ := he
    have hr : z = .bool b := hr
    exact ⟨by rw [hr], hb.below⟩
  | panicked c => exact he.elim
  | outgrown => exact he.elim
/-- a cell's value -/
noncomputable def avOf : Option Value → AV
  | some (.int k n) => .i k n
  | some (.bool b) => .b b
  | some (.string s) => .s s.size (Classical.choose (str_of s))
  | _ => .jk
theorem avOf_int {o : Option Value} {k : IntKind} {n : Int} (h : o = some (.int k n)) : avOf o = .i k n := by rw [h]; rfl
theorem avOf_bool {o : Option Value} {b : Bool} (h : o = some (.bool b)) : avOf o = .b b := by rw [h]; rfl
theorem avOf_string {o : Option Value} {s : ByteArray} (h : o = some (.string s)) : avOf o = .s s.size (Classical.choose (str_of s)) := by rw [h]; rfl
theorem VR.avOf {r : Rn} {o : Option Value} (h : (Clu.avOf o).flt = true) : ∃ x, o = some x ∧ VR r (Clu.avOf o) x := by
  unfold Clu.avOf at h ⊢
  split
  · exact ⟨_, rfl, rfl⟩
  · exact ⟨_, rfl, rfl⟩
  · rename_i s
    exact ⟨_, rfl, Classical.choose_spec (str_of s) r⟩
  · split at h
    · rename_i h1 _ _; exact absurd rfl (h1 _ _)
    · rename_i _ h1 _; exact absurd rfl (h1 _)
    · rename_i _ _ h1; exact absurd rfl (h1 _)
    · cases h
/-- a row's cells -/
noncomputable def rowOf (w : World) (B O n : Nat) : List AV := (List.range n).map fun k => avOf (w.cell? ⟨B, O + k, none⟩)
theorem rowOf_length (w : World) (B O n : Nat) : (rowOf w B O n).length = n := by unfold rowOf; rw [List.length_map, List.length_range]
theorem rowOf_get {w : World} {B O n k : Nat} (h : k < n) : (rowOf w B O n)[k]? = some (avOf (w.cell? ⟨B, O + k, none⟩)) := by
  unfold rowOf
  rw [List.getElem?_map, List.getElem?_range h]
  rfl
theorem flts_of {l : List AV} (h : ∀ (j : Nat) (a : AV), l[j]? = some a → a.flt = true) : AV.flts l = true := by
  induction l with
  | nil => rfl
  | cons a l ih =>
    simp only [AV.flts, Bool.and_eq_true]
    exact ⟨h 0 a rfl, ih fun j b hj => h (j + 1) b (by simpa using hj)⟩
theorem rowOf_flts {w : World} {B O n : Nat} (h : ∀ k, k < n → (avOf (w.cell? ⟨B, O + k, none⟩)).flt = true) : AV.flts (rowOf w B O n) = true := flts_of fun j a hj => by
  have hlt : j < n := by
    have := (List.getElem?_eq_some_iff.1 hj).1
    rwa [rowOf_length] at this
  rw [rowOf_get hlt] at hj
  cases hj
  exact h j hlt
theorem argAt_row {w : World} {B O n : Nat} (hn : n ≤ 1000000000000000000000) (hB : B < w.heap.size) (hs : (w.shape? B).isSome = true) (h : ∀ k, k < n → (avOf (w.cell? ⟨B, O + k, none⟩)).flt = true) : ArgAt w B O (rowOf w B O n) := by
  refine ⟨by rw [rowOf_length]; exact hn, rowOf_flts h, hB, hs, fun j a hj => ?_⟩
  have hlt : j < n := by
    have := (List.getElem?_eq_some_iff.1 hj).1
    rwa [rowOf_length] at this
  rw [rowOf_get hlt] at hj
  cases hj
  exact VR.avOf (h j hlt)
/-- a slice that came in -/
theorem slice_in {H : Type} {enc : TypeId × Value → H} {w : World} {reach : Reach} {base b0 : Nat} {held : Bool} {t e : TypeId} {v : Value} {d : DataW H} {p : List MemPlace} (ht : P.underlying t = some (.slice e)) (hw : Value.okWide P w reach b0 t v) (h : DataW.Trod enc P w base (fun _ => true) held t v d p) :
    v = .slice none 0 0 ∨ ∃ B O len cap, v = .slice (some ⟨B, O, none⟩) len cap ∧ len ≤ cap ∧ cap ≤ maxLen ∧ B < w.heap.size ∧ (w.shape? B).isSome = true ∧
      ∀ i, i < len → ∃ us fu y, us.length = P.cellsOf e ∧ (∀ j, j < P.cellsOf e → w.cell? ⟨B, O + (i * P.cellsOf e + j), none⟩ = us[j]?) ∧ DataW.trod enc P w base (fun _ => true) held fu e us = some y := by
  obtain ⟨a0, len0, cap0, rfl⟩ := WideShapes.okWide_slice ht hw
  obtain ⟨fuel, hf⟩ := h
  rcases Deep.open_slice ht hf with ⟨h1, _⟩ | ⟨a, len, cap, m, n, D, Pl, h1, _, h2, h3, hm, _, hx⟩
  · left
    simp [Value.cells] at h1
    obtain ⟨rfl, rfl, rfl⟩ := h1
    rfl
  · right
    simp [Value.cells] at h1
    obtain ⟨rfl, rfl, rfl⟩ := h1
    have ha : a.spot = none ∧ ∃ row cells, w.shape? a.block = some (row, cells) := by
      simp only [Value.okWide, ht, Cell.okWide, Cell.ok] at hw
      obtain ⟨_, _, _, h4, row, cells, h5, _⟩ := hw
      exact ⟨h4, row, cells, h5⟩
    obtain ⟨B, O, sp⟩ := a
    obtain ⟨h4, row, cells, h5⟩ := ha
    simp only at h4 h5
    subst h4
    refine ⟨B, O, len0, cap0, rfl, h2, h3, ?_, by rw [h5]; rfl, fun i hi => ?_⟩
    · unfold World.shape? at h5
      rcases Nat.lt_or_ge B w.heap.size with h6 | h6
      · exact h6
      · rw [Array.getElem?_eq_none h6] at h5; cases h5
    · obtain ⟨cs', q1, q2⟩ := hx i (by rw [hm]; simp; omega)
      unfold World.cells? at q1
      split at q1
      · refine ⟨cs', n, _, ?_, fun j hj => ?_, q2⟩
        · rw [mapM_some_length q1, List.length_range]
        · have := mapM_some_get q1 j j (by rw [List.getElem?_range hj])
          rw [← this]
          congr 1
          unfold Addr.add
          by_cases h6 : i * P.cellsOf e = 0
          · by_cases h7 : j = 0
            · subst h7; rw [if_pos rfl, if_pos h6, h6]; rfl
            · rw [if_neg h7, if_pos h6, h6]; simp
          · by_cases h7 : j = 0
            · subst h7; rw [if_pos rfl, if_neg h6]; simp
            · rw [if_neg h7, if_neg h6]; simp [Nat.add_assoc]
      · cases q1
end Clu
end Go.Proofs.Ythghohgjedjpbaa
