/-
  Runs at whatever arguments: parts of a body, loops that stand for their runs.
-/
import Derived.Test.YthghohgjedjpbaaCluS1
namespace Go.Proofs.Ythghohgjedjpbaa
namespace Clu
open Go.RowKit
set_option linter.unusedVariables false
noncomputable section
def exB (ec : Nat) (e : Ex) : Bool := match e with
  | .nor => Nat.beq ec 0
  | .ret => Nat.beq ec 1
  | .exi i => Nat.beq ec (Nat.add i 2)
  | _ => false
def exOf : Nat → Ex
  | 0 => .nor
  | 1 => .ret
  | i + 2 => .exi i
theorem exB_ok {ec : Nat} {e : Ex} (h : exB ec e = true) : e = exOf ec := by
  cases e with
  | nor => rw [beq_iff.1 (show Nat.beq ec 0 = true from h)]; rfl
  | ret => rw [beq_iff.1 (show Nat.beq ec 1 = true from h)]; rfl
  | exi i => rw [beq_iff.1 (show Nat.beq ec (Nat.add i 2) = true from h)]; rfl
  | got l => cases h
  | pan x b => cases h
theorem exOf_fine : ∀ ec : Nat, (exOf ec).fine = true
  | 0 => rfl
  | 1 => rfl
  | _ + 2 => rfl
def memN (l : List Nat) (t : Nat) : Bool := l.any (Nat.beq t)
theorem memN_iff {l : List Nat} {t : Nat} : memN l t = true ↔ t ∈ l := by
  unfold memN
  rw [List.any_eq_true]
  constructor
  · rintro ⟨x, h1, h2⟩; rw [beq_iff.1 h2]; exact h1
  · intro h; exact ⟨t, h, beq_iff.2 rfl⟩
/-- a slot that holds a truth, or nothing -/
def flatB (o : Option AV) : Bool := match o with
  | none => true
  | some (.b _) => true
  | some (.tu []) => true
  | some .jk => true
  | _ => false
def undO (n : Nat) (o : Option AV) : Bool := match o with
  | some a => a.und n
  | none => false
def okFr (nt n : Nat) (ts bs : List Nat) (fr : Fr) : Bool := (ts.all fun t => undO n (fr.get t)) && ((List.range nt).all fun t => memN ts t || (memN bs t || notB (fr.get t)))
/-- slots that hold truths, or nothing -/
def bsK (bs : List Nat) (fr : Fr) (o : Out) : Out := List.rec (motive := fun _ => Out) o (fun t _ ih => Bool.rec (motive := fun _ => Out) (.err 90 1) ih (flatB (fr.get t))) bs
theorem bsK_ok {v : AV} {fr : Fr} {o : Out} : ∀ {bs : List Nat}, bsK bs fr o = .ok v → o = .ok v ∧ (bs.all fun t => flatB (fr.get t)) = true
  | [], h => ⟨h, rfl⟩
  | t :: bs, h => by
    have h' : @Bool.rec (fun _ => Out) (.err 90 1) (bsK bs fr o) (flatB (fr.get t)) = .ok v := h
    cases hf : flatB (fr.get t) with
    | false => rw [hf] at h'; cases h'
    | true =>
      rw [hf] at h'
      obtain ⟨h1, h2⟩ := bsK_ok h'
      exact ⟨h1, by rw [List.all_cons, hf, h2]; rfl⟩
abbrev HS := Nat × Nat × Nat × Option TypeId
def plB (a b : Option TypeId) : Bool := match a, b with
  | none, none => true
  | some x, some y => Nat.beq x y
  | _, _ => false
theorem plB_ok {a b : Option TypeId} (h : plB a b = true) : a = b := by
  cases a <;> cases b <;> first | rfl | cases h | (rw [beq_iff.1 h])
/-- a block's cells, where it is as it is told -/
def cellsH (h : T) (x : HS) : Option (List AV) := match h.get x.1 with
  | some (.c cs fz osz pl) => (match Nat.beq x.2.1 fz && (Nat.beq x.2.2.1 osz && plB x.2.2.2 pl) with
    | true => some cs
    | false => none)
  | _ => none
theorem cellsH_ok {h : T} {x : HS} {cs : List AV} (hk : cellsH h x = some cs) : h.get x.1 = some (.c cs x.2.1 x.2.2.1 x.2.2.2) := by
  unfold cellsH at hk
  split at hk
  · rename_i cs' fz osz pl hg
    split at hk
    · rename_i hc
      simp only [Bool.and_eq_true] at hc
      cases hk
      rw [hg, beq_iff.1 hc.1, beq_iff.1 hc.2.1, plB_ok hc.2.2]
    · cases hk
  · cases hk
/-- what is left at a part's end -/
def finK (ec nt n : Nat) (ts bs : List Nat) (hs : List HS) : KE := fun e fr h nx => match exB ec e && (okFr nt n ts bs fr && hs.all fun x => (cellsH h x).isSome) with
  | true => bsK bs fr (.ok (.tu (ts.map (fun t => (fr.get t).getD (.tu [])) ++ hs.map fun x => .ag ((cellsH h x).getD []))))
  | false => .err 90 0
/-- truths that are told, of a frame -/
def tellF (keys : List Nat) (fr : Fr) : Fr := keys.foldl (fun fr k => fr.set k (some (.tu []))) fr
/-- a heap: what is laid, and blocks -/
def mkH (base : T) : List (Nat × Blk) → T
  | [] => base
  | p :: l => (mkH base l).set p.1 (some p.2)
end
variable {P : Program}
theorem tellF_get {t : Nat} : ∀ {keys : List Nat} {fr : Fr}, (tellF keys fr).get t = fr.get t ∨ ((tellF keys fr).get t = some (.tu []) ∧ t ∈ keys)
  | [], fr => .inl rfl
  | k :: keys, fr => by
    show (tellF keys (fr.set k (some (.tu [])))).get t = _ ∨ _
    rcases tellF_get (t := t) (keys := keys) (fr := fr.set k (some (.tu []))) with h | ⟨h, hm⟩
    · rw [Tr.get_set] at h
      by_cases ht : t = k
      · rw [if_pos ht] at h; exact .inr ⟨h, by rw [ht]; simp⟩
      · rw [if_neg ht] at h; exact .inl h
    · exact .inr ⟨h, List.mem_cons_of_mem _ hm⟩
theorem FR.told {D : List Deferred} {r : Rn} {nt : Nat} {fr : Fr} {act : Act} {keys : List Nat} (hk : ∀ k ∈ keys, nt ≤ k) (h : FR D r nt fr act) : FR D r nt (tellF keys fr) act := by
  refine ⟨h.size, h.defers, fun t => ?_⟩
  rcases tellF_get (t := t) (keys := keys) (fr := fr) with e | ⟨e, hm⟩
  · rw [e]; exact h.tmp t
  · rw [e]
    have : act.tmps.getD t undef = undef := by
      rw [Array.getD_eq_getD_getElem?, Array.getElem?_eq_none (by rw [h.size]; exact hk t hm)]
      rfl
    rw [this]
    exact ⟨[], rfl, rfl⟩
theorem RunE.told {n nt lim nx n1 : Nat} {c : Code} {fr fr1 : Fr} {h h1 : T} {e : Ex} {keys : List Nat} (hk : ∀ k ∈ keys, nt ≤ k) (he : e.fine = true) (R : RunE P n c nt lim (tellF keys fr) h nx e fr1 h1 n1) : RunE P n c nt lim fr h nx e fr1 h1 n1 :=
  RunE.of he ⟨(R.ok he).1, fun p r w act D H hf hfr => (R.ok he).2 p r w act D H hf (hfr.told hk)⟩
theorem RunE.weak {n nt lim nx n1 : Nat} {c : Code} {fr fr1 : Fr} {h h1 : T} {e : Ex} {l : List (Nat × Option AV)} (he : e.fine = true) (hl : ∀ t o, (t, o) ∈ l → fr.get t = o) (hb : ∀ t, t < nt → (∀ o, (t, o) ∉ l) → notB (fr.get t) = true) (R : RunE P n c nt lim (mkFr nt l) h nx e fr1 h1 n1) : RunE P n c nt lim fr h nx e fr1 h1 n1 :=
  RunE.of he ⟨(R.ok he).1, fun p r w act D H hf hfr => (R.ok he).2 p r w act D H hf (hfr.weaken hl hb)⟩
theorem mkH_get {base : T} {id : Nat} : ∀ {l : List (Nat × Blk)}, (∃ b, (id, b) ∈ l ∧ (mkH base l).get id = some b) ∨ ((∀ b, (id, b) ∉ l) ∧ (mkH base l).get id = base.get id)
  | [] => .inr ⟨fun b h => (by cases h), rfl⟩
  | p :: l => by
    rw [mkH, Tr.get_set]
    by_cases h : id = p.1
    · rw [if_pos h]
      exact .inl ⟨p.2, by subst h; simp, rfl⟩
    · rw [if_neg h]
      rcases mkH_get (base := base) (id := id) (l := l) with ⟨b, h1, h2⟩ | ⟨h1, h2⟩
      · exact .inl ⟨b, List.mem_cons_of_mem _ h1, h2⟩
      · refine .inr ⟨fun b hm => ?_, h2⟩
        rcases List.mem_cons.1 hm with q | q
        · exact h (by rw [← q])
        · exact h1 b q
/-- the heap at the end: the same blocks, with other cells -/
def newH (hs : List HS) (cs : List (List AV)) : List (Nat × Blk) := (hs.zip cs).map fun p => (p.1.1, .c p.2 p.1.2.1 p.1.2.2.1 p.1.2.2.2)
theorem newH_mem {id : Nat} {b : Blk} : ∀ {hs : List HS} {cs : List (List AV)}, (id, b) ∈ newH hs cs → ∃ x c, (x, c) ∈ hs.zip cs ∧ id = x.1 ∧ b = .c c x.2.1 x.2.2.1 x.2.2.2 := fun {hs cs} h => by
  unfold newH at h
  obtain ⟨p, h1, h2⟩ := List.mem_map.1 h
  cases h2
  exact ⟨p.1, p.2, h1, rfl, rfl⟩
theorem zip_mem_left {α β : Type} : ∀ {l : List α} {m : List β} {x : α}, l.length = m.length → x ∈ l → ∃ y, (x, y) ∈ l.zip m
  | _ :: _, _ :: _, x, h, hm => by
    rcases List.mem_cons.1 hm with rfl | hm
    · exact ⟨_, List.mem_cons_self ..⟩
    · obtain ⟨y, hy⟩ := zip_mem_left (by simpa using h) hm
      exact ⟨y, List.mem_cons_of_mem _ hy⟩
  | _ :: _, [], x, h, _ => by simp at h
theorem map_zip {α β : Type} (f : α → β) : ∀ {l : List α} {m : List β} {x : α} {y : β}, m = l.map f → (x, y) ∈ l.zip m → y = f x
  | [], _, x, y, _, h => by simp at h
  | a :: l, m, x, y, hm, h => by
    subst hm
    rcases (by simpa using h : (x = a ∧ y = f a) ∨ (x, y) ∈ l.zip (l.map f)) with ⟨rfl, rfl⟩ | q
    · rfl
    · exact map_zip f rfl q
end Clu
end Go.Proofs.Ythghohgjedjpbaa
