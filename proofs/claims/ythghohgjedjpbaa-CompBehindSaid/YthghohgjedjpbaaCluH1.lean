/-
  Runs at whatever arguments: forks; parts with several ends; functions and loops that stand for their runs, with several outcomes.
-/
import Derived.Test.YthghohgjedjpbaaCluG2
namespace Go.Proofs.Ythghohgjedjpbaa
namespace Clu
open Go.RowKit
set_option linter.unusedVariables false
variable {P : Program}
/-- both ways -/
noncomputable def forkB (c : Bool) (f t : Out) : Out := Bool.rec (motive := fun _ => Out) f t c
theorem forkB_t {c : Bool} (h : c = true) (f t : Out) : forkB c f t = t := by subst h; rfl
theorem forkB_f {c : Bool} (h : c = false) (f t : Out) : forkB c f t = f := by subst h; rfl
/-- one of several -/
inductive Dec (α : Type) where
  | leaf (a : α)
  | fork (c : Bool) (f t : Dec α)
  | need (c : Bool) (d : Dec α)
  | fail
section
variable {α : Type}
noncomputable def Dec.run (d : Dec α) (k : α → Out) : Out := Dec.rec (motive := fun _ => Out) (fun a => k a) (fun c _ _ f t => Bool.rec (motive := fun _ => Out) f t c) (fun c _ o => Bool.rec (motive := fun _ => Out) (.err 96 1) o c) (.err 96 2) d
/-- what it comes to -/
def Dec.Is : Dec α → α → Prop
  | .leaf a, x => a = x
  | .fork c f t, x => (c = false ∧ f.Is x) ∨ (c = true ∧ t.Is x)
  | .need c d, x => c = true ∧ d.Is x
  | .fail, _ => False
theorem Dec.run_ok {v : AV} {k : α → Out} : ∀ {d : Dec α}, d.run k = .ok v → ∃ a, d.Is a ∧ k a = .ok v
  | .leaf a, h => ⟨a, rfl, h⟩
  | .fork c f t, h => by
    have h' : @Bool.rec (fun _ => Out) (f.run k) (t.run k) c = .ok v := h
    cases c with
    | false => obtain ⟨a, h1, h2⟩ := Dec.run_ok (d := f) h'; exact ⟨a, .inl ⟨rfl, h1⟩, h2⟩
    | true => obtain ⟨a, h1, h2⟩ := Dec.run_ok (d := t) h'; exact ⟨a, .inr ⟨rfl, h1⟩, h2⟩
  | .need c d, h => by
    have h' : @Bool.rec (fun _ => Out) (.err 96 1) (d.run k) c = .ok v := h
    cases c with
    | false => cases h'
    | true => obtain ⟨a, h1, h2⟩ := Dec.run_ok (d := d) h'; exact ⟨a, ⟨rfl, h1⟩, h2⟩
  | .fail, h => by cases h
end
/-- a function of flat values stands for its runs; with several outcomes -/
noncomputable def decH (F : List AV → Dec AV) : HT := fun _ args h nx k => (F args).run fun v => k v h nx
theorem decH_ok {f : FuncId} {F : List AV → Dec AV} (ht : ∀ l v, (F l).Is v → Fact P f [] l v) : HandOK P f (decH F) := fun lim args h nx k v hl0 hk => by
  unfold decH at hk
  obtain ⟨a, ha, hk⟩ := Dec.run_ok hk
  obtain ⟨t1, t2, t3⟩ := ht _ _ ha
  refine ⟨_, _, _, hk, Keeps.refl _ _ _, fun p r w xs H hf hx => ?_⟩
  exact (t3 w (fun g cs hm => by cases hm) xs (VRs.flt _ _ t1 hx)).mono (fun z w' ⟨h1, h2⟩ => left_below H (VR.flt _ _ t2 h1) h2) fun _ _ h => h
/-- an end of a part: its kind; slots that are told; blocks that are told; the next block, where blocks have come -/
abbrev XE := Nat × List Nat × List HS × Option Nat
noncomputable def fin1 (nt nx0 : Nat) (bs : List Nat) (x : XE) : KE := match x.2.2.2 with
  | none => finK x.1 nt nx0 x.2.1 bs x.2.2.1
  | some n => finN x.1 nt n x.2.1 bs x.2.2.1
theorem bsK_of {fr : Fr} {o : Out} : ∀ {bs : List Nat}, (bs.all fun t => flatB (fr.get t)) = true → bsK bs fr o = o
  | [], h => rfl
  | t :: bs, h => by
    simp only [List.all_cons, Bool.and_eq_true] at h
    show @Bool.rec (fun _ => Out) (.err 90 1) (bsK bs fr o) (flatB (fr.get t)) = o
    rw [h.1]
    exact bsK_of h.2
def nxB (nx0 nx : Nat) : Option Nat → Bool
  | none => true
  | some n => Nat.beq nx n
/-- .. with its place in the table -/
noncomputable def finT (i nt nx0 : Nat) (bs : List Nat) (x : XE) : KE := fun e fr h nx => match nxB nx0 nx x.2.2.2 && (okFr nt (x.2.2.2.getD nx0) x.2.1 bs fr && x.2.2.1.all fun y => (cellsH h y).isSome) with
  | true => bsK bs fr (.ok (.tu (.i .i64 (.ofNat i) :: (x.2.1.map (fun t => (fr.get t).getD (.tu [])) ++ x.2.2.1.map fun y => .ag ((cellsH h y).getD [])))))
  | false => .err 97 2
theorem finT_ok {i j nt nx0 : Nat} {bs : List Nat} {x : XE} {e : Ex} {fr : Fr} {h : T} {nx : Nat} {l : List AV} (he : exB x.1 e = true) (hk : finT i nt nx0 bs x e fr h nx = .ok (.tu (.i .i64 (.ofNat j) :: l))) : i = j ∧ fin1 nt nx0 bs x e fr h nx = .ok (.tu l) := by
  obtain ⟨ec, ts, hs, o⟩ := x
  unfold finT at hk
  split at hk
  case h_2 => cases hk
  rename_i hc
  simp only [Bool.and_eq_true] at hc
  obtain ⟨c0, c1, c2⟩ := hc
  obtain ⟨hk, hb⟩ := bsK_ok hk
  simp only [Out.ok.injEq, AV.tu.injEq, List.cons.injEq, AV.i.injEq, true_and] at hk
  obtain ⟨h1, h2⟩ := hk
  refine ⟨Int.ofNat.inj h1, ?_⟩
  cases o with
  | none =>
    show finK ec nt nx0 ts bs hs e fr h nx = _
    unfold finK
    simp only at he
    rw [he, show okFr nt nx0 ts bs fr = true from c1, c2]
    exact (bsK_of hb).trans (by rw [h2])
  | some n =>
    show finN ec nt n ts bs hs e fr h nx = _
    unfold finN
    simp only at he
    rw [he, show Nat.beq nx n = true from c0, show okFr nt n ts bs fr = true from c1, c2]
    exact (bsK_of hb).trans (by rw [h2])
noncomputable def finM (nt nx0 : Nat) (bs : List Nat) : Nat → List XE → KE
  | _, [] => fun _ _ _ _ => .err 97 1
  | i, x :: l => fun e fr h nx => match exB x.1 e && nxB nx0 nx x.2.2.2 with
    | true => finT i nt nx0 bs x e fr h nx
    | false => finM nt nx0 bs (Nat.succ i) l e fr h nx
theorem finM_ok {nt nx0 : Nat} {bs : List Nat} {e : Ex} {fr : Fr} {h : T} {nx j : Nat} {l : List AV} : ∀ {tab : List XE} {i : Nat}, finM nt nx0 bs i tab e fr h nx = .ok (.tu (.i .i64 (.ofNat j) :: l)) → ∃ x, i ≤ j ∧ tab[j - i]? = some x ∧ fin1 nt nx0 bs x e fr h nx = .ok (.tu l)
  | [], i, hk => by cases hk
  | x :: tab, i, hk => by
    unfold finM at hk
    split at hk
    · rename_i he
      simp only [Bool.and_eq_true] at he
      obtain ⟨h1, h2⟩ := finT_ok he.1 hk
      subst h1
      exact ⟨x, Nat.le_refl _, by rw [Nat.sub_self]; rfl, h2⟩
    · obtain ⟨y, h1, h2, h3⟩ := finM_ok (tab := tab) hk
      have h1 : i + 1 ≤ j := h1
      have h2 : tab[j - (i + 1)]? = some y := h2
      refine ⟨y, by omega, ?_, h3⟩
      rw [show j - i = (j - (i + 1)) + 1 by omega]
      exact h2
open Classical in
theorem oneJob {n nt lim nx n1 : Nat} {c : Code} {fr fr1 : Fr} {h h1 : T} {e : Ex} (R : RunE P n c nt lim fr h nx e fr1 h1 n1) : ∃ rec : Job, JobOK P n rec ∧ ∀ k, rec nt lim c fr h nx k = k e fr1 h1 n1 := by
  refine ⟨fun nt' lim' c' fr' h' nx' k => if nt' = nt ∧ lim' = lim ∧ c' = c ∧ fr' = fr ∧ h' = h ∧ nx' = nx then k e fr1 h1 n1 else .err 0 0, ?_, fun k => if_pos ⟨rfl, rfl, rfl, rfl, rfl, rfl⟩⟩
  intro nt' lim' c' fr' h' nx' k v hT hk
  dsimp only at hk
  by_cases hq : nt' = nt ∧ lim' = lim ∧ c' = c ∧ fr' = fr ∧ h' = h ∧ nx' = nx
  · rw [if_pos hq] at hk
    obtain ⟨rfl, rfl, rfl, rfl, rfl, rfl⟩ := hq
    exact ⟨e, fr1, h1, n1, hk, R⟩
  · rw [if_neg hq] at hk
    cases hk
/-- what a part's run says, where it ends so -/
theorem segM {rec : Job} {n nt lim nx : Nat} {c : Code} {keys ts0 bs : List Nat} {vs0 vs : List AV} {os0 : Nat → Option AV} {gl bl0 : List (Nat × Blk)} {tab : List XE} {cs : List (List AV)} (j ec : Nat) (ts : List Nat) (hs : List HS) (J : JobOK P n rec) (B : Bs lim nx gl) (ho : ∀ t, flatB (os0 t) = true)
    (hk : rec nt lim c (tellF keys (mkFr nt (std ts0 vs0 bs os0))) (mkH (mkH .e gl) bl0) nx (finM nt nx bs 0 tab) = .ok (.tu (.i .i64 (.ofNat j) :: (vs ++ cs.map .ag)))) (hj : tab[j]? = some (ec, ts, hs, none)) (hlen : vs.length = ts.length)
    (hkeys : (keys.all fun k => Nat.ble nt k) = true) (h1000 : 1000 ≤ nx) (hu0 : AV.unds nx vs0 = true) (hbl : ∀ x ∈ bl0, lim ≤ x.1 ∧ x.1 < nx ∧ x.2.und nx = true) (hids : hs.map (·.1) = bl0.map (·.1)) (hro : ∀ p ∈ newH hs cs, p.2.ro = false) (huc : ∀ c ∈ cs, AV.unds nx c = true) :
    ∃ os : Nat → Option AV, (∀ t, flatB (os t) = true) ∧ RunE P n c nt lim (mkFr nt (std ts0 vs0 bs os0)) (mkH .e (bl0 ++ gl)) nx (exOf ec) (mkFr nt (std ts vs bs os)) (mkH .e (newH hs cs ++ gl)) nx := by
  have hg : ∀ id b, (mkH .e gl).get id = some b → (id, b) ∈ gl := fun id b hb => gl_mem hb
  have hT : Top lim (mkH (mkH .e gl) bl0) nx := ⟨B.le, fun j hj => by
    rcases mkH_get (base := mkH .e gl) (id := j) (l := bl0) with ⟨b', h1, h2⟩ | ⟨h1, h2⟩
    · have := (hbl _ h1).2.1
      simp only at this
      omega
    · rw [h2]
      cases hgj : (mkH .e gl).get j with
      | none => rfl
      | some b => have := B.low _ (hg j b hgj); have := B.le; simp only at *; omega⟩
  obtain ⟨e, fr1, h1, n1, hk1, R⟩ := J nt lim c _ _ _ _ _ hT hk
  obtain ⟨x, _, q2, q3⟩ := finM_ok hk1
  rw [Nat.sub_zero, hj] at q2
  cases q2
  obtain ⟨rec', J', hr⟩ := oneJob R
  exact segQ J' B ho ((hr _).trans q3) hlen hkeys h1000 hu0 hbl hids hro huc
theorem segMN {rec : Job} {n nt lim nx nx1 : Nat} {c : Code} {keys ts0 bs : List Nat} {vs0 vs : List AV} {os0 : Nat → Option AV} {gl bl0 : List (Nat × Blk)} {tab : List XE} {cs : List (List AV)} (j ec : Nat) (ts : List Nat) (hs : List HS) (J : JobOK P n rec) (B : Bs lim nx gl) (ho : ∀ t, flatB (os0 t) = true)
    (hk : rec nt lim c (tellF keys (mkFr nt (std ts0 vs0 bs os0))) (mkH (mkH .e gl) bl0) nx (finM nt nx bs 0 tab) = .ok (.tu (.i .i64 (.ofNat j) :: (vs ++ cs.map .ag)))) (hj : tab[j]? = some (ec, ts, hs, some nx1)) (hlen : vs.length = ts.length)
    (hkeys : (keys.all fun k => Nat.ble nt k) = true) (hbl : ∀ x ∈ bl0, lim ≤ x.1 ∧ x.1 < nx) (hlow : ∀ x ∈ hs, lim ≤ x.1) :
    ∃ os : Nat → Option AV, (∀ t, flatB (os t) = true) ∧ RunE P n c nt lim (mkFr nt (std ts0 vs0 bs os0)) (mkH .e (bl0 ++ gl)) nx (exOf ec) (mkFr nt (std ts vs bs os)) (mkH .e (newH hs cs ++ gl)) nx1 := by
  have hg : ∀ id b, (mkH .e gl).get id = some b → (id, b) ∈ gl := fun id b hb => gl_mem hb
  have hT : Top lim (mkH (mkH .e gl) bl0) nx := ⟨B.le, fun j hj => by
    rcases mkH_get (base := mkH .e gl) (id := j) (l := bl0) with ⟨b', h1, h2⟩ | ⟨h1, h2⟩
    · have := (hbl _ h1).2
      simp only at this
      omega
    · rw [h2]
      cases hgj : (mkH .e gl).get j with
      | none => rfl
      | some b => have := B.low _ (hg j b hgj); have := B.le; simp only at *; omega⟩
  obtain ⟨e, fr1, h1, n1, hk1, R⟩ := J nt lim c _ _ _ _ _ hT hk
  obtain ⟨x, _, q2, q3⟩ := finM_ok hk1
  rw [Nat.sub_zero, hj] at q2
  cases q2
  obtain ⟨rec', J', hr⟩ := oneJob R
  exact segN J' B ho ((hr _).trans q3) hlen hkeys hbl hlow
/-- a loop's outcome: how it ends, the slots that are told, their values, blocks, the next block -/
abbrev LO := Nat × List Nat × List AV × List (Nat × Blk) × Nat
/-- a loop stands for its rounds, with several outcomes; gs: variables that are laid, rows that came in; ws: blocks that it may write; all others are left behind -/
noncomputable def loopM (keys : List Nat) (P : Program) (b : Code) (ts0 bs gs ws : List Nat) (F : List AV → List (Nat × Blk) → Nat → Dec LO) : LT := fun fuel nt lim fr h nx k => match okFr nt nx ts0 bs fr && ((h.toL (fun k => k)).all (fun x => Nat.ble lim x.1 || memN gs x.1) && keys.all (fun k => Nat.ble nt k)) with
  | true => (F (slotsF ts0 fr) (pickL ws h) nx).run fun o => needP (LoopQ P b fuel nt lim (pickL ws h ++ pickL gs h) nx o.1 ts0 (slotsF ts0 fr) bs o.2.1 o.2.2.1 (o.2.2.2.1 ++ pickL gs h) o.2.2.2.2) (fun _ => .err 93 1) fun hx => bsK bs fr (k (exOf o.1) (tellF keys (mkFr nt (std o.2.1 o.2.2.1 bs (aboutQ bs fr hx)))) (mkH .e (o.2.2.2.1 ++ pickL gs h)) o.2.2.2.2)
  | false => .err 93 2
theorem loopM_ok {keys : List Nat} {b : Code} {ts0 bs gs ws : List Nat} {F : List AV → List (Nat × Blk) → Nat → Dec LO} : LoopOK P b (loopM keys P b ts0 bs gs ws F) := fun n nt lim fr h nx k v hl hk => by
  unfold loopM at hk
  split at hk
  case h_2 => cases hk
  rename_i hc
  obtain ⟨⟨ec, ts, vs, nb, nx1⟩, _, hk⟩ := Dec.run_ok hk
  refine loopK_ok (keys := keys) (ec := ec) (ts0 := ts0) (bs := bs) (ts := ts) (gs := gs) (ws := ws) (F := fun _ _ _ => some (vs, nb, nx1)) n nt lim fr h nx k v hl ?_
  unfold loopK
  rw [hc]
  exact hk
/-! rows -/
theorem unds_append {n : Nat} {l m : List AV} (h : AV.unds n l = true) (k : AV.unds n m = true) : AV.unds n (l ++ m) = true := by
  induction l with
  | nil => exact k
  | cons a l ih =>
    simp only [AV.unds, Bool.and_eq_true, List.cons_append] at h ⊢
    exact ⟨h.1, ih h.2⟩
theorem unds_all {n : Nat} {l : List AV} : AV.unds n l = true ↔ ∀ a ∈ l, a.und n = true := by
  induction l with
  | nil => simp [AV.unds]
  | cons a l ih => simp only [AV.unds, Bool.and_eq_true, ih, List.mem_cons, forall_eq_or_imp]
theorem unds_take {n : Nat} {l : List AV} (k : Nat) (h : AV.unds n l = true) : AV.unds n (l.take k) = true := unds_all.2 fun a ha => unds_all.1 h a (List.mem_of_mem_take ha)
theorem unds_drop {n : Nat} {l : List AV} (k : Nat) (h : AV.unds n l = true) : AV.unds n (l.drop k) = true := unds_all.2 fun a ha => unds_all.1 h a (List.mem_of_mem_drop ha)
theorem unds_splice {n o : Nat} {cs vs : List AV} (h : AV.unds n cs = true) (k : AV.unds n vs = true) : AV.unds n (splice cs o vs) = true := unds_append (unds_append (unds_take _ h) k) (unds_drop _ h)
theorem unds_map {n : Nat} {α : Type} {f : α → AV} {l : List α} (h : ∀ a, (f a).und n = true) : AV.unds n (l.map f) = true := unds_all.2 fun a ha => by
  obtain ⟨b, _, rfl⟩ := List.mem_map.1 ha
  exact h b
theorem splice_length {cs : List AV} {o : Nat} {vs : List AV} (h : o + vs.length ≤ cs.length) : (splice cs o vs).length = cs.length := by
  simp [splice]; omega
theorem flts_all {l : List AV} : AV.flts l = true ↔ ∀ a ∈ l, a.flt = true := by
  induction l with
  | nil => simp [AV.flts]
  | cons a l ih => simp only [AV.flts, Bool.and_eq_true, ih, List.mem_cons, forall_eq_or_imp]
theorem flts_append {l m : List AV} (h : AV.flts l = true) (k : AV.flts m = true) : AV.flts (l ++ m) = true := flts_all.2 fun a ha => (List.mem_append.1 ha).elim (flts_all.1 h a) (flts_all.1 k a)
theorem flts_take {l : List AV} (k : Nat) (h : AV.flts l = true) : AV.flts (l.take k) = true := flts_all.2 fun a ha => flts_all.1 h a (List.mem_of_mem_take ha)
theorem flts_drop {l : List AV} (k : Nat) (h : AV.flts l = true) : AV.flts (l.drop k) = true := flts_all.2 fun a ha => flts_all.1 h a (List.mem_of_mem_drop ha)
theorem flts_splice {o : Nat} {cs vs : List AV} (h : AV.flts cs = true) (k : AV.flts vs = true) : AV.flts (splice cs o vs) = true := flts_append (flts_append (flts_take _ h) k) (flts_drop _ h)
theorem splice_full {cs vs : List AV} (h : cs.length = vs.length) : splice cs 0 vs = vs := by
  unfold splice
  rw [List.take_zero, List.nil_append, Nat.zero_add, List.drop_eq_nil_of_le (by omega), List.append_nil]
/-! conditions -/
theorem ble_f {a b : Nat} (h : b < a) : Nat.ble a b = false := by
  cases hb : Nat.ble a b with
  | false => rfl
  | true => have := ble_iff.1 hb; omega
theorem blt_f {a b : Nat} (h : b ≤ a) : Nat.blt a b = false := by
  cases hb : Nat.blt a b with
  | false => rfl
  | true => have := blt_iff.1 hb; omega
theorem beq_f {a b : Nat} (h : a ≠ b) : Nat.beq a b = false := by
  cases hb : Nat.beq a b with
  | false => rfl
  | true => exact absurd (beq_iff.1 hb) h
theorem inR_nat {k : IntKind} {x : Nat} (h : x < halfN k) : inR k (Int.ofNat x) = true := blt_iff.2 h
theorem inR_int {k : IntKind} {half : Nat} (hh : halfN k = half) {x : Int} (h : -(half : Int) ≤ x ∧ x < half) : inR k x = true := by
  subst hh
  cases x with
  | ofNat a => exact blt_iff.2 (by have := h.2; simp only [Int.ofNat_eq_natCast] at this; omega)
  | negSucc a => exact blt_iff.2 (by have := h.1; omega)
/-! conditions, the other way -/
theorem of_not_t {c : Bool} (h : (!c) = true) : c = false := by cases c <;> first | rfl | cases h
theorem of_not_f {c : Bool} (h : (!c) = false) : c = true := by cases c <;> first | rfl | cases h
theorem of_iLt_t {a b : Int} (h : iLt a b = true) : a < b := by rw [iLt_eq] at h; exact of_decide_eq_true h
theorem of_iLt_f {a b : Int} (h : iLt a b = false) : b ≤ a := by rw [iLt_eq] at h; have := of_decide_eq_false h; omega
theorem of_iEq_t {a b : Int} (h : iEq a b = true) : a = b := by rw [iEq_eq] at h; simpa using h
theorem of_iEq_f {a b : Int} (h : iEq a b = false) : a ≠ b := by rw [iEq_eq] at h; simpa using h
theorem of_ble_f {a b : Nat} (h : Nat.ble a b = false) : b < a := by
  rcases Nat.lt_or_ge b a with h1 | h1
  · exact h1
  · rw [ble_iff.2 h1] at h; cases h
theorem of_blt_f {a b : Nat} (h : Nat.blt a b = false) : b ≤ a := by
  rcases Nat.lt_or_ge a b with h1 | h1
  · rw [blt_iff.2 h1] at h; cases h
  · exact h1
theorem of_beq_f {a b : Nat} (h : Nat.beq a b = false) : a ≠ b := fun e => by rw [beq_iff.2 e] at h; cases h
theorem forkB_cases {c : Bool} {f t o : Out} (hf : c = false → f = o) (ht : c = true → t = o) : forkB c f t = o := by
  cases c with
  | false => exact hf rfl
  | true => exact ht rfl
end Clu
end Go.Proofs.Ythghohgjedjpbaa
