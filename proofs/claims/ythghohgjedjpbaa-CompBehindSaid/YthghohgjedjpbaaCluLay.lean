/-
  Runs by the kernel: variables that are laid.
-/
import Derived.Test.YthghohgjedjpbaaCluZd
import Derived.LaidLaws
import Derived.LaidHandle
namespace Go.Proofs.Ythghohgjedjpbaa
namespace Clu
open Go.RowKit
set_option linter.unusedVariables false

noncomputable section
variable (P : Program)
mutual
/-- the cells of a datum of numbers, bools and texts -/
def flat : Nat → TypeId → DataW Unit → Option (List AV)
  | 0, _, _ => none
  | f + 1, t, d => match P.underlying t, d with
    | some .bool, .lit (.bool b) => some [.b b]
    | some (.int k), .lit (.int k' n) => if k = k' then some [.i k n] else none
    | some .string, .lit (.string bs) => match strL bs (fun n N => .ok (.s n N)) with
      | .ok a => some [a]
      | _ => none
    | some (.struct fs), .agg ds => if P.cellsOf t = (fs.toList.map fun fd => P.cellsOf fd.type).sum then flatFs f fs.toList ds 0 else none
    | some (.array n e), .agg ds => if ds.length = n ∧ P.cellsOf t = n * P.cellsOf e then flatEs f e ds else none
    | _, _ => none
def flatFs : Nat → List Field → List (DataW Unit) → Nat → Option (List AV)
  | 0, _, _, _ => none
  | _ + 1, [], [], _ => some []
  | f + 1, fd :: fs, d :: ds, o => match flat f fd.type d, flatFs f fs ds (o + P.cellsOf fd.type) with
    | some l, some m => if fd.offset = o ∧ l.length = P.cellsOf fd.type then some (l ++ m) else none
    | _, _ => none
  | _ + 1, _, _, _ => none
def flatEs : Nat → TypeId → List (DataW Unit) → Option (List AV)
  | 0, _, _ => none
  | _ + 1, _, [] => some []
  | f + 1, e, d :: ds => match flat f e d, flatEs f e ds with
    | some l, some m => if l.length = P.cellsOf e then some (l ++ m) else none
    | _, _ => none
end
end
theorem strL_bytes (l : List UInt8) {a : AV} (h : (match strL l (fun n N => Out.ok (.s n N)) with | .ok a => some [a] | _ => none) = some [a]) (r : Rn) : VR r a (.string ⟨l.toArray⟩) := by
  obtain ⟨n, N, h1, h2⟩ := strL_eq l
  rw [h1] at h
  cases h
  show _ = Value.string (bytes (lst n N))
  rw [h2]
  congr 1
  apply ByteArray.ext
  unfold bytes
  simp only [List.map_map]
  congr 1
  have : (UInt8.ofNat ∘ fun x : UInt8 => x.toNat) = id := by funext x; simp
  rw [this, List.map_id]
variable {P : Program}
theorem mapM_cons_some {α β : Type} {g : α → Option β} {a : α} {l : List α} {ys : List β} (h : (a :: l).mapM g = some ys) : ∃ y zs, g a = some y ∧ l.mapM g = some zs ∧ ys = y :: zs := by
  rw [List.mapM_cons] at h
  cases h1 : g a with
  | none => rw [h1] at h; cases h
  | some y =>
    rw [h1] at h
    cases h2 : l.mapM g with
    | none => rw [h2] at h; cases h
    | some zs => rw [h2] at h; cases h; exact ⟨y, zs, rfl, rfl, rfl⟩
def FlatOK (P : Program) (f : Nat) : Prop := ∀ (w : World) (t : TypeId) (d : DataW Unit) (L : List AV) (fuel : Nat) (cs : List Value) (p : List MemPlace), flat P f t d = some L → DataW.trod (fun _ => ()) P w 0 (fun _ => true) false fuel t cs = some (d, p) → ∀ r, VRs r L cs
theorem flatFs_ok {w : World} {fuel : Nat} {cs : List Value} : ∀ (f : Nat), (∀ g, g < f → FlatOK P g) → ∀ (fs : List Field) (ds : List (DataW Unit)) (o : Nat) (L : List AV) (xs : List (DataW Unit × List MemPlace)), flatFs P f fs ds o = some L →
    (fs.mapM fun fd => DataW.trod (fun _ => ()) P w 0 (fun _ => true) false fuel fd.type ((cs.drop fd.offset).take (P.cellsOf fd.type))) = some xs → xs.map (·.1) = ds → cs.length = o + (fs.map fun fd => P.cellsOf fd.type).sum → ∀ r, VRs r L (cs.drop o)
  | 0, _, _, _, _, _, _, h, _, _, _, _ => by simp [flatFs] at h
  | f + 1, ih, [], [], o, L, xs, h, _, _, hl, r => by
    have : L = [] := by simpa [flatFs] using h.symm
    subst this
    simp only [List.map_nil, List.sum_nil, Nat.add_zero] at hl
    show cs.drop o = []
    rw [← hl, List.drop_length]
  | f + 1, ih, fd :: fs, d :: ds, o, L, xs, h, hx, hd, hl, r => by
    obtain ⟨y, zs, h1, h2, rfl⟩ := mapM_cons_some hx
    simp only [List.map_cons, List.cons.injEq] at hd
    obtain ⟨rfl, hd⟩ := hd
    unfold flatFs at h
    split at h
    · rename_i l m e1 e2
      split at h
      · rename_i hc
        cases h
        obtain ⟨rfl, hlen⟩ := hc
        obtain ⟨y1, y2⟩ := y
        have k1 := ih f (Nat.lt_succ_self _) w _ _ _ _ _ _ e1 h1 r
        have k2 := flatFs_ok f (fun g hg => ih g (by omega)) fs ds (fd.offset + P.cellsOf fd.type) m zs e2 h2 hd (by rw [hl]; simp; omega) r
        have e : cs.drop fd.offset = (cs.drop fd.offset).take (P.cellsOf fd.type) ++ cs.drop (fd.offset + P.cellsOf fd.type) := by
          rw [← List.drop_drop, List.take_append_drop]
        rw [e]
        exact k1.append k2
      · cases h
    · cases h
  | f + 1, _, [], _ :: _, _, _, _, h, _, _, _, _ => by simp [flatFs] at h
  | f + 1, _, _ :: _, [], _, _, _, h, _, _, _, _ => by simp [flatFs] at h
theorem flatEs_ok {w : World} {fuel : Nat} {e : TypeId} {cs : List Value} : ∀ (f : Nat), (∀ g, g < f → FlatOK P g) → ∀ (n i : Nat) (ds : List (DataW Unit)) (L : List AV) (xs : List (DataW Unit × List MemPlace)), flatEs P f e ds = some L →
    ((List.range' i n).mapM fun j => DataW.trod (fun _ => ()) P w 0 (fun _ => true) false fuel e ((cs.drop (j * P.cellsOf e)).take (P.cellsOf e))) = some xs → xs.map (·.1) = ds → cs.length = (i + n) * P.cellsOf e → ∀ r, VRs r L (cs.drop (i * P.cellsOf e))
  | f, ih, 0, i, ds, L, xs, h, hx, hd, hl, r => by
    simp only [List.range'_zero, List.mapM_nil] at hx
    cases hx
    subst hd
    have : L = [] := by cases f with | zero => simp [flatEs] at h | succ f => simpa [flatEs] using h.symm
    subst this
    show cs.drop _ = []
    rw [Nat.add_zero] at hl
    rw [← hl, List.drop_length]
  | f, ih, n + 1, i, ds, L, xs, h, hx, hd, hl, r => by
    rw [List.range'_succ] at hx
    obtain ⟨y, zs, h1, h2, rfl⟩ := mapM_cons_some hx
    cases ds with
    | nil => simp at hd
    | cons d ds =>
      simp only [List.map_cons, List.cons.injEq] at hd
      obtain ⟨rfl, hd⟩ := hd
      cases f with
      | zero => simp [flatEs] at h
      | succ f =>
        unfold flatEs at h
        split at h
        · rename_i l m e1 e2
          split at h
          · rename_i hlen
            cases h
            obtain ⟨y1, y2⟩ := y
            have k1 := ih f (Nat.lt_succ_self _) w _ _ _ _ _ _ e1 h1 r
            have k2 := flatEs_ok f (fun g hg => ih g (by omega)) n (i + 1) ds m zs e2 h2 hd (by rw [hl]; congr 1; omega) r
            have e : cs.drop (i * P.cellsOf e) = (cs.drop (i * P.cellsOf e)).take (P.cellsOf e) ++ cs.drop ((i + 1) * P.cellsOf e) := by
              rw [Nat.add_mul, Nat.one_mul, ← List.drop_drop, List.take_append_drop]
            rw [e]
            exact k1.append k2
          · cases h
        · cases h
theorem flatFs_sum : ∀ (f : Nat) (fs : List Field) (ds : List (DataW Unit)) (o : Nat) (L : List AV), flatFs P f fs ds o = some L → L.length = (fs.map fun fd => P.cellsOf fd.type).sum
  | 0, _, _, _, _, h => by simp [flatFs] at h
  | f + 1, [], [], o, L, h => by
    have : L = [] := by simpa [flatFs] using h.symm
    subst this; rfl
  | f + 1, fd :: fs, d :: ds, o, L, h => by
    unfold flatFs at h
    split at h
    · rename_i l m e1 e2
      split at h
      · rename_i hc
        cases h
        have := flatFs_sum f fs ds _ m e2
        simp [hc.2, this]
      · cases h
    · cases h
  | f + 1, [], _ :: _, _, _, h => by simp [flatFs] at h
  | f + 1, _ :: _, [], _, _, h => by simp [flatFs] at h
/-- cells that a laid datum says -/
theorem flat_ok : ∀ f, FlatOK P f := fun f => by
  induction f using Nat.strongRecOn with
  | _ f ih =>
    intro w t d L fuel cs p h ht r
    cases f with
    | zero => simp [flat] at h
    | succ f =>
      cases fuel with
      | zero => simp [DataW.trod] at ht
      | succ fuel =>
        unfold flat at h
        split at h
        · rename_i b hu
          cases h
          unfold DataW.trod at ht
          rw [hu] at ht
          split at ht <;> simp_all
          obtain ⟨rfl, _⟩ := ht
          exact ⟨_, [], rfl, rfl, rfl⟩
        · rename_i k k' n hu
          split at h
          · rename_i hk
            subst hk
            cases h
            unfold DataW.trod at ht
            rw [hu] at ht
            split at ht <;> simp_all
            obtain ⟨⟨rfl, _⟩, ⟨rfl, rfl⟩, _⟩ := ht
            exact ⟨_, [], rfl, rfl, rfl⟩
          · cases h
        · rename_i bs hu
          have hL : ∃ a, L = [a] := by
            split at h
            · cases h; exact ⟨_, rfl⟩
            · cases h
          obtain ⟨a, rfl⟩ := hL
          have hv := strL_bytes bs h r
          unfold DataW.trod at ht
          rw [hu] at ht
          split at ht <;> simp_all
          obtain ⟨_, rfl, _⟩ := ht
          exact ⟨_, [], rfl, hv, rfl⟩
        · rename_i fs ds hu
          split at h
          · rename_i hs
            unfold DataW.trod at ht
            rw [hu] at ht
            simp only at ht
            split at ht
            · rename_i hl
              obtain ⟨xs, h1, h2⟩ := Option.map_eq_some_iff.1 ht
              simp only [Prod.mk.injEq, DataW.agg.injEq] at h2
              have := flatFs_ok f (fun g hg => ih g (by omega)) fs.toList ds 0 L xs h h1 h2.1 (by rw [hl, hs]; simp) r
              simpa using this
            · cases ht
          · cases h
        · rename_i n e ds hu
          split at h
          · rename_i hn
            unfold DataW.trod at ht
            rw [hu] at ht
            simp only at ht
            split at ht
            · rename_i hl
              obtain ⟨xs, h1, h2⟩ := Option.map_eq_some_iff.1 ht
              simp only [Prod.mk.injEq, DataW.agg.injEq] at h2
              rw [List.range_eq_range'] at h1
              have := flatEs_ok f (fun g hg => ih g (by omega)) n 0 ds L xs h h1 h2.1 (by rw [hl, hn.2]; simp) r
              simpa using this
            · cases ht
          · cases h
        · cases h

/-! heaps that are laid -/
/-- the cells of a variable, as far as they are told -/
def LaidAt (w : World) (g : Nat) (cs : List AV) : Prop := 0 < cs.length ∧ ∀ j a, cs[j]? = some a → ∃ x, w.cell? ⟨g, j, none⟩ = some x ∧ VR r0 a x
noncomputable def layK : List (Nat × List AV) → T → (T → Out) → Out
  | [], h, k => k h
  | (g, cs) :: l, h, k => Tr.setK h g (some (.c cs cs.length 0 none)) fun h => layK l h k
theorem layK_ok {v : AV} : ∀ {l : List (Nat × List AV)} {h : T} {k : T → Out}, layK l h k = .ok v → ∃ h', k h' = .ok v ∧ ∀ j b, h'.get j = some b → h.get j = some b ∨ ∃ cs, (j, cs) ∈ l ∧ b = .c cs cs.length 0 none
  | [], h, k, hk => ⟨h, hk, fun j b hj => .inl hj⟩
  | (g, cs) :: l, h, k, hk => by
    obtain ⟨h1, hk1, e1⟩ := Tr.setK_ok (show Tr.setK h g (some (.c cs cs.length 0 none)) (fun h => layK l h k) = .ok v from hk)
    obtain ⟨h', hk2, e2⟩ := layK_ok hk1
    refine ⟨h', hk2, fun j b hj => ?_⟩
    rcases e2 j b hj with h3 | ⟨cs', h3, h4⟩
    · rw [e1] at h3
      split at h3
      · rename_i hjg
        cases h3
        exact .inr ⟨cs, by simp [hjg], rfl⟩
      · exact .inl h3
    · exact .inr ⟨cs', List.mem_cons_of_mem _ h3, h4⟩
theorem HR.laid {w : World} {l : List (Nat × List AV)} {h : T} (hl : ∀ g cs, (g, cs) ∈ l → g < 1000 ∧ LaidAt w g cs) (hh : ∀ j b, h.get j = some b → ∃ cs, (j, cs) ∈ l ∧ b = .c cs cs.length 0 none) : HR (· < w.heap.size) 1000 r0 h.get w := by
  refine ⟨fun id b hb => ?_, fun id id' b b' x x' hS hb hb' _ _ _ => ?_, fun id b x hb hid => ?_, fun k hk => hk, fun g hg => if_pos hg⟩
  · obtain ⟨cs, h1, rfl⟩ := hh id b hb
    obtain ⟨h2, h3, h4⟩ := hl id cs h1
    obtain ⟨x, hx, _⟩ := h4 0 cs[0] (List.getElem?_eq_getElem h3)
    have hlt := World.block_lt_of_cell? _ _ hx
    refine ⟨id, 0, 0, if_pos h2, hlt, fun j a ha => ?_, fun j h5 h6 => by omega, fun o h5 h6 => by omega, fun h => absurd rfl h, fun ty h => (by cases h), ?_⟩
    · obtain ⟨y, hy, hv⟩ := h4 j a ha
      exact ⟨y, by rw [Nat.zero_add]; exact hy, hv⟩
    · unfold World.cell? at hx
      unfold World.shape?
      split at hx
      · rename_i hc; simp [hc]
      · cases hx
  · obtain ⟨cs, h1, rfl⟩ := hh id b hb
    obtain ⟨cs', h1', rfl⟩ := hh id' b' hb'
    have := (hl id cs h1).1
    have := (hl id' cs' h1').1
    rcases hS with hS | hS | hS
    · omega
    · omega
    · exact hS.1.elim
  · obtain ⟨cs, h1, rfl⟩ := hh id b hb
    have := (hl id cs h1).1
    omega
/-- a laid variable's cells -/
theorem laid_var {w : World} : ∀ {l : List (String × DataW Unit)} {ps : List MemPlace}, DataW.LaidVars P w l ps → ∀ {n : String} {d : DataW Unit}, (n, d) ∈ l → ∃ g t cs fuel p, P.globalNamed n = some g ∧ (P.globals[g]?).map (·.type) = some t ∧ w.var? P n = some cs ∧ DataW.trod (fun _ => ()) P w 0 (fun _ => true) false fuel t cs.toList = some (d, p)
  | (m, e) :: l, ps, h, n, d, hm => by
    obtain ⟨g, t, cs, fuel, p, q, h1, h2, h3, h4, h5, _⟩ := h
    rcases List.mem_cons.1 hm with hm | hm
    · cases hm; exact ⟨g, t, cs, fuel, p, h1, h2, h3, h4⟩
    · exact laid_var h5 hm
theorem laid_flat
    {w : World} {l : List (String × DataW Unit)} (h : laidMet P l w) {n : String} {d : DataW Unit} (hm : (n, d) ∈ l) {g : Nat} {t : TypeId} {L : List AV} (hg : P.globalNamed n = some g) (ht : (P.globals[g]?).map (·.type) = some t) (hL : flat P 1000 t d = some L) (hne : 0 < L.length) : LaidAt w g L := by
  obtain ⟨ps, h1, _⟩ := h
  obtain ⟨g', t', cs, fuel, p, e1, e2, e3, e4⟩ := laid_var h1 hm
  rw [hg] at e1; cases e1
  rw [ht] at e2; cases e2
  have := flat_ok 1000 w t d L fuel cs.toList p hL e4 r0
  refine ⟨hne, fun j a ha => ?_⟩
  obtain ⟨x, x1, x2⟩ := this.get ha
  refine ⟨x, ?_, x2⟩
  rw [World.var?_cell hg e3 j, ← Array.getElem?_toList, x1]
/-- a world in which variables hold what is told -/
def cellV : AV → Value
  | .b x => .bool x
  | .i k n => .int k n
  | .s n N => .string (bytes (lst n N))
  | .fa t (.ag [.p b o]) => .iface t (.agg #[.pointer (some ⟨b, o, none⟩)])
  | _ => .bool false
def layWorld (w : World) : List (Nat × List AV) → World
  | [] => w
  | (g, cs) :: l => layWorld { w with heap := w.heap.modify g fun
      | .cells _ t frozen => .cells (cs.map cellV).toArray t frozen
      | o => o } l
/-- what is true of a call without arguments whose run, from variables that are laid, comes to a truth -/
theorem calls_laid {X : XT} (hp : Plain P) (hX : XOK P X) (hm : P.follows .mixedOrders = true) {n : Nat} {f : FuncId} {fn : Func} {c : Code} {b : Bool} {l : List (Nat × List AV)} (hf : P.funcs[f]? = some fn) (hb : fn.body = some c)
    (hk : (layK l .e fun h => runF P X n 1000 f [] h 1000) = .ok (.b b)) {w : World} (hl : ∀ g cs, (g, cs) ∈ l → g < 1000 ∧ LaidAt w g cs) :
    Calls P f #[] w fun e w' => e = .returned (.bool b) ∧ Below w.heap.size w w' := by
  obtain ⟨h, hk, hh⟩ := layK_ok hk
  have hh' : ∀ j b, h.get j = some b → ∃ cs, (j, cs) ∈ l ∧ b = .c cs cs.length 0 none := fun j b hj => (hh j b hj).resolve_left fun h1 => by cases (Tr.get_e j).symm.trans h1
  refine calls_from hp hX (drK_ok hm) hf hb hk ⟨Nat.le_refl _, fun j hj => ?_⟩ (HR.laid hl hh') (fun id h1 => if_neg (by omega)) rfl
  cases hg : h.get j with
  | none => rfl
  | some b =>
    obtain ⟨cs, h1, _⟩ := hh' j b hg
    have := (hl j cs h1).1
    omega
end Clu
end Go.Proofs.Ythghohgjedjpbaa
