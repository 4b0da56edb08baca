/-
  Runs by the kernel: variables that are laid, among them errors that point at their texts.
-/
import Derived.Test.YtodbppopnfabeaaGreatDoorCloLay
namespace Go.Proofs.YtodbppopnfabeaaGreatDoor
namespace Clo
open Go.RowKit
set_option linter.unusedVariables false

/-- names of variables, and of the spots at which laid pointers point -/
def rq (as : List (Nat × Nat)) : Rn := fun id => if id < 1000 then some (id, 0, 0) else (as[id - 1000]?).map fun x => (x.1, x.2, 0)
theorem r0_le_rq (as : List (Nat × Nat)) : Le r0 (rq as) := fun id x h => by
  unfold r0 at h
  unfold rq
  split at h
  · rename_i h1; rw [if_pos h1]; exact h
  · cases h
noncomputable def layQ : Nat → List (List AV) → T → (T → Out) → Out
  | _, [], h, k => k h
  | id, cs :: q, h, k => Tr.setK h id (some (.c cs cs.length 0 (some 0))) fun h => layQ (id + 1) q h k
theorem layQ_ok {v : AV} : ∀ {q : List (List AV)} {id : Nat} {h : T} {k : T → Out}, layQ id q h k = .ok v → ∃ h', k h' = .ok v ∧ ∀ j b, h'.get j = some b → h.get j = some b ∨ ∃ i cs, q[i]? = some cs ∧ j = id + i ∧ b = .c cs cs.length 0 (some 0)
  | [], id, h, k, hk => ⟨h, hk, fun j b hj => .inl hj⟩
  | cs :: q, id, h, k, hk => by
    obtain ⟨h1, hk1, e1⟩ := Tr.setK_ok (show Tr.setK h id (some (.c cs cs.length 0 (some 0))) (fun h => layQ (id + 1) q h k) = .ok v from hk)
    obtain ⟨h', hk2, e2⟩ := layQ_ok hk1
    refine ⟨h', hk2, fun j b hj => ?_⟩
    rcases e2 j b hj with h3 | ⟨i, cs', h3, h4, h5⟩
    · rw [e1] at h3
      split at h3
      · rename_i hjg
        cases h3
        exact .inr ⟨0, cs, rfl, hjg, rfl⟩
      · exact .inl h3
    · exact .inr ⟨i + 1, cs', by simpa using h3, by omega, h5⟩
/-- cells of a row of variables, or of a spot -/
def CellsAt (w : World) (r : Rn) (B O : Nat) (cs : List AV) : Prop := 0 < cs.length ∧ ∀ j a, cs[j]? = some a → ∃ x, w.cell? ⟨B, O + j, none⟩ = some x ∧ VR r a x
theorem LaidAt.cells {w : World} {g : Nat} {cs : List AV} (h : LaidAt w g cs) (as : List (Nat × Nat)) : CellsAt w (rq as) g 0 cs :=
  ⟨h.1, fun j a hj => by
    obtain ⟨x, x1, x2⟩ := h.2 j a hj
    exact ⟨x, by rw [Nat.zero_add]; exact x1, x2.mono (r0_le_rq as)⟩⟩
structure LaidQ (w : World) (l : List (Nat × List AV)) (q : List (List AV)) (as : List (Nat × Nat)) : Prop where
  globs : ∀ (g : Nat) (cs : List AV), (g, cs) ∈ l → g < 1000 ∧ CellsAt w (rq as) g 0 cs
  spots : ∀ (i : Nat) (cs : List AV), q[i]? = some cs → ∃ x : Nat × Nat, as[i]? = some x ∧ CellsAt w (rq as) x.1 x.2 cs ∧ ∀ o, w.frozen? ⟨x.1, o, none⟩ = false
  len : as.length = q.length
theorem CellsAt.lt {w : World} {r : Rn} {B O : Nat} {cs : List AV} (h : CellsAt w r B O cs) : B < w.heap.size ∧ (w.shape? B).isSome = true := by
  obtain ⟨x, hx, _⟩ := h.2 0 (cs[0]'h.1) (List.getElem?_eq_getElem h.1)
  refine ⟨World.block_lt_of_cell? _ _ hx, ?_⟩
  unfold World.cell? at hx
  unfold World.shape?
  split at hx
  · rename_i hc; simp only at hc; rw [hc]; rfl
  · cases hx
theorem CellsAt.blk {w : World} {r : Rn} {id B O : Nat} {cs : List AV} (h : CellsAt w r B O cs) (hr : r id = some (B, O, 0)) {pl : Option TypeId} (hpl : ∀ ty, pl = some ty → (∀ o, w.frozen? ⟨B, o, none⟩ = false) ∧ ty = 0) : BR r id (.c cs cs.length 0 pl) w :=
  ⟨B, O, 0, hr, h.lt.1, h.2, fun j h5 h6 => by omega, fun o h5 h6 => by omega, fun h => absurd rfl h, fun ty hty => ⟨(hpl ty hty).1, .inl (hpl ty hty).2⟩, h.lt.2⟩
theorem HR.laidQ {w : World} {l : List (Nat × List AV)} {q : List (List AV)} {as : List (Nat × Nat)} {h : T} (hl : LaidQ w l q as)
    (hh : ∀ j b, h.get j = some b → (∃ cs, (j, cs) ∈ l ∧ b = .c cs cs.length 0 none) ∨ ∃ i cs, q[i]? = some cs ∧ j = 1000 + i ∧ b = .c cs cs.length 0 (some 0)) : HR (· < w.heap.size) (1000 + q.length) (rq as) h.get w := by
  have hlt : ∀ j b, h.get j = some b → j < 1000 + q.length ∧ ¬ b.pd := fun j b hj => by
    rcases hh j b hj with ⟨cs, h1, rfl⟩ | ⟨i, cs, h1, rfl, rfl⟩
    · have := (hl.globs j cs h1).1
      exact ⟨by omega, fun h => h⟩
    · have := (List.getElem?_eq_some_iff.1 h1).1
      exact ⟨by omega, fun h => h⟩
  refine ⟨fun id b hb => ?_, fun id id' b b' x x' hS hb hb' _ _ _ => ?_, fun id b x hb hid => ?_, fun k hk => hk, fun g hg => if_pos hg⟩
  · rcases hh id b hb with ⟨cs, h1, rfl⟩ | ⟨i, cs, h1, rfl, rfl⟩
    · obtain ⟨h2, h3⟩ := hl.globs id cs h1
      exact h3.blk (if_pos h2) fun ty h => by cases h
    · obtain ⟨x, x1, x2, x3⟩ := hl.spots i cs h1
      refine x2.blk ?_ fun ty h => by cases h; exact ⟨x3, rfl⟩
      unfold rq
      rw [if_neg (by omega), show 1000 + i - 1000 = i by omega, x1]
      rfl
  · have := hlt _ _ hb
    have := hlt _ _ hb'
    rcases hS with hS | hS | hS
    · omega
    · omega
    · exact absurd hS.1 (hlt _ _ hb).2
  · have := hlt _ _ hb
    omega
variable {P : Program}
theorem calls_laidQ {X : XT} (hp : Plain P) (hX : XOK P X) (hm : P.follows .mixedOrders = true) {n : Nat} {f : FuncId} {fn : Func} {c : Code} {b : Bool} {l : List (Nat × List AV)} {q : List (List AV)} (hf : P.funcs[f]? = some fn) (hb : fn.body = some c)
    (hk : (layK l .e fun h => layQ 1000 q h fun h => runF P X n (1000 + q.length) f [] h (1000 + q.length)) = .ok (.b b)) {w : World} {as : List (Nat × Nat)} (hl : LaidQ w l q as) :
    Calls P f #[] w fun e w' => e = .returned (.bool b) ∧ Below w.heap.size w w' := by
  obtain ⟨h, hk, hh⟩ := layK_ok hk
  obtain ⟨h', hk, hh'⟩ := layQ_ok hk
  have hh2 : ∀ j b, h'.get j = some b → (∃ cs, (j, cs) ∈ l ∧ b = .c cs cs.length 0 none) ∨ ∃ i cs, q[i]? = some cs ∧ j = 1000 + i ∧ b = .c cs cs.length 0 (some 0) := fun j b hj => by
    rcases hh' j b hj with h1 | h1
    · exact .inl ((hh j b h1).resolve_left fun h1 => by cases (Tr.get_e j).symm.trans h1)
    · exact .inr h1
  refine calls_from hp hX (drK_ok hm) hf hb hk ⟨Nat.le_refl _, fun j hj => ?_⟩ (HR.laidQ hl hh2) (fun id h1 => ?_) rfl
  · cases hg : h'.get j with
    | none => rfl
    | some b =>
      rcases hh2 j b hg with ⟨cs, h1, _⟩ | ⟨i, cs, h1, rfl, _⟩
      · have := (hl.globs j cs h1).1
        omega
      · have := (List.getElem?_eq_some_iff.1 h1).1
        omega
  · unfold rq
    rw [if_neg (by omega), List.getElem?_eq_none (by rw [hl.len]; omega)]
    rfl
/-- a laid variable's cells, and where they lie -/
theorem laid_places {w : World} : ∀ {l : List (String × DataW Unit)} {ps : List MemPlace}, DataW.LaidVars P w l ps → ∀ {n : String} {d : DataW Unit}, (n, d) ∈ l → ∃ g t cs fuel p, P.globalNamed n = some g ∧ (P.globals[g]?).map (·.type) = some t ∧ w.var? P n = some cs ∧ DataW.trod (fun _ => ()) P w 0 (fun _ => true) false fuel t cs.toList = some (d, p) ∧ ∀ m, m ∈ MemPlace.row ⟨g, 0, none⟩ cs.size ++ p → m ∈ ps
  | (m, e) :: l, ps, h, n, d, hm => by
    obtain ⟨g, t, cs, fuel, p, q, h1, h2, h3, h4, h5, rfl⟩ := h
    rcases List.mem_cons.1 hm with hm | hm
    · cases hm; exact ⟨g, t, cs, fuel, p, h1, h2, h3, h4, fun m hm => List.mem_append_left _ hm⟩
    · obtain ⟨g', t', cs', fuel', p', a1, a2, a3, a4, a5⟩ := laid_places h5 hm
      exact ⟨g', t', cs', fuel', p', a1, a2, a3, a4, fun m hm => List.mem_append_right _ (a5 m hm)⟩
/-- a variable that is laid by errors.New -/
theorem laid_err {w : World} {l : List (String × DataW Unit)} (h : laidMet P l w) {n nm : String} {text : List UInt8} (hm : (n, DataW.iface nm (.ptr (.agg [.lit (.string text)]))) ∈ l) {g : Nat} {ti tp te ts : TypeId} {ms : Array (String × TypeId)} {f : Field}
    (hg : P.globalNamed n = some g) (ht : (P.globals[g]?).map (·.type) = some ti)
    (hi : P.underlying ti = some (.interface ms)) (hrow : ∀ u, P.typeName? 3 u = some nm → u = tp)
    (hp : P.underlying tp = some (.pointer te)) (he : P.underlying te = some (.struct #[f])) (hft : f.type = ts) (hfo : f.offset = 0) (hs : P.underlying ts = some .string) (hc : P.cellsOf te = 1) (hcs : P.cellsOf ts = 1) :
    ∃ B O, w.cell? ⟨g, 0, none⟩ = some (.iface tp (.pointer (some ⟨B, O, none⟩))) ∧ w.cell? ⟨B, O, none⟩ = some (.string ⟨text.toArray⟩) ∧ ∀ o, w.frozen? ⟨B, o, none⟩ = false := by
  obtain ⟨ps, h1, _, h3⟩ := h
  obtain ⟨g', t', cs, fuel, p, e1, e2, e3, e4, e5⟩ := laid_places h1 hm
  rw [hg] at e1; cases e1
  rw [ht] at e2; cases e2
  have hcell : ∀ j, w.cell? ⟨g, j, none⟩ = cs[j]? := World.var?_cell hg e3
  obtain ⟨a, s, c1, c2, c3, c4, c5⟩ := errorString_of_trod hi hrow hp he hft hfo hs hc hcs e4 fun u v huv => by
    have h0 : cs[0]? = some (.iface u v) := by rw [← Array.getElem?_toList, huv]; rfl
    have hsz : cs.size = 1 := by rw [← Array.length_toList, huv]; rfl
    exact (h3 g 0 (e5 _ (List.mem_append_left _ (by rw [hsz]; simp [MemPlace.row])))).2 u v (by rw [hcell]; exact h0)
  obtain ⟨B, O, sp⟩ := a
  obtain ⟨c, t, hb⟩ := (h3 B O (e5 _ (List.mem_append_right _ (by rw [c5]; simp [MemPlace.row])))).1
  have hsp : sp = none := by
    unfold World.cell? at c2
    simp only [hb] at c2
    cases sp with
    | none => rfl
    | some x => simp at c2
  subst hsp
  refine ⟨B, O, ?_, ?_, fun o => ?_⟩
  · rw [hcell, ← Array.getElem?_toList, c1]; rfl
  · rw [c2, ← c3]
  · unfold World.frozen?
    simp [hb]
/-- .. in cells -/
theorem err_cells {w : World} {g B O : Nat} {tp : TypeId} {as : List (Nat × Nat)} {i : Nat} (h : w.cell? ⟨g, 0, none⟩ = some (.iface tp (.pointer (some ⟨B, O, none⟩)))) (ha : as[i]? = some (B, O)) : CellsAt w (rq as) g 0 [.fa tp (.p (1000 + i) 0)] :=
  ⟨Nat.one_pos, fun j a hj => by
    cases j with
    | zero =>
      cases hj
      refine ⟨_, h, _, rfl, B, O, 0, ?_, rfl⟩
      unfold rq
      rw [if_neg (by omega), show 1000 + i - 1000 = i by omega, ha]
      rfl
    | succ j => cases j <;> cases hj⟩
theorem text_cells {w : World} {B O : Nat} {text : List UInt8} {as : List (Nat × Nat)} (h : w.cell? ⟨B, O, none⟩ = some (.string ⟨text.toArray⟩)) {a : AV} (ha : (match strL text (fun n N => Out.ok (.s n N)) with | .ok a => some [a] | _ => none) = some [a]) : CellsAt w (rq as) B O [a] :=
  ⟨Nat.one_pos, fun j b hj => by
    cases j with
    | zero =>
      cases hj
      exact ⟨_, h, strL_bytes text ha _⟩
    | succ j => cases j <;> cases hj⟩
/-- a world in which variables hold what is told -/
def cellQ (B : Nat) : AV → Value
  | .fa t (.p b o) => .iface t (.pointer (some ⟨B + (b - 1000), o, none⟩))
  | a => cellV a
def layWorldL (B : Nat) (w : World) : List (Nat × List AV) → World
  | [] => w
  | (g, cs) :: l => layWorldL B { w with heap := w.heap.modify g fun
      | .cells _ t frozen => .cells (cs.map (cellQ B)).toArray t frozen
      | o => o } l
def layWorldQ (w : World) (l : List (Nat × List AV)) (q : List (List AV)) (te : TypeId) : World :=
  q.foldl (fun w cs => w.alloc (.cells (cs.map cellV).toArray te)) (layWorldL w.heap.size w l)
end Clo
end Go.Proofs.YtodbppopnfabeaaGreatDoor
