/-
  Runs at whatever arguments: loops that write blocks; calls that write the block that they are handed.
-/
import Derived.Test.YthghohgjedjpbaaCluF1
namespace Go.Proofs.Ythghohgjedjpbaa
namespace Clu
open Go.RowKit
set_option linter.unusedVariables false
variable {P : Program}
mutual
theorem flt_und {n : Nat} : ∀ {a : AV}, a.flt = true → a.und n = true
  | .b _, _ | .i _ _, _ | .s _ _, _ | .pn, _ | .sn, _ | .ni, _ | .nf, _ | .mn, _ => rfl
  | .ag l, h => flts_unds (l := l) (by simpa [AV.flt] using h)
  | .tu l, h => flts_unds (l := l) (by simpa [AV.flt] using h)
  | .fa _ a, h => flt_und (a := a) (by simpa [AV.flt] using h)
  | .p _ _, h | .sl _ _ _ _, h | .so _ _ _ _, h | .se, h | .fn _ _ _, h | .mp _, h | .pa _, h | .jk, h => by simp [AV.flt] at h
theorem flts_unds {n : Nat} : ∀ {l : List AV}, AV.flts l = true → AV.unds n l = true
  | [], _ => rfl
  | a :: l, h => by
    simp only [AV.flts, Bool.and_eq_true] at h
    simp only [AV.unds, Bool.and_eq_true]
    exact ⟨flt_und h.1, flts_unds h.2⟩
end
theorem HR.part {p : Nat → Prop} {lim : Nat} {r : Rn} {h h0 : T} {w : World} (H : HR p lim r h.get w) (hs : ∀ id b, h0.get id = some b → h.get id = some b) : HR p lim r h0.get w :=
  ⟨fun id b hb => H.blk id b (hs id b hb), fun id id' b b' x x' hS q q' => H.inj id id' b b' x x' hS (hs _ _ q) (hs _ _ q'), fun id b x hb => H.low id b x (hs id b hb), H.bd, H.glob⟩
theorem HR.drop {p : Nat → Prop} {lim n : Nat} {r r2 : Rn} {h1 h2 : T} {w : World} (hr : ∀ id, id < n → r id = r2 id) (H : HR p lim r2 h1.get w) (hsub : ∀ id b, h2.get id = some b → h1.get id = some b ∧ id < n ∧ b.und n = true) (glob : ∀ g, g < 1000 → r g = some (g, 0, 0)) : HR p lim r h2.get w := by
  refine ⟨fun id b hb => ?_, fun id id' b b' x x' hs q q' y y' => ?_, fun id b x hb hlim hro hx => ?_, H.bd, glob⟩
  · obtain ⟨s1, s2, s3⟩ := hsub id b hb
    exact (H.blk id b s1).und hr s2 s3
  · obtain ⟨s1, s2, _⟩ := hsub id b q
    obtain ⟨s3, s4, _⟩ := hsub id' b' q'
    exact H.inj id id' b b' x x' hs s1 s3 (by rw [← hr id s2]; exact y) (by rw [← hr id' s4]; exact y')
  · obtain ⟨s1, s2, _⟩ := hsub id b hb
    exact H.low id b x s1 hlim hro (by rw [← hr id s2]; exact hx)
section
variable {α : Type}
/-- all that a trie holds -/
noncomputable def Tr.toL (t : Tr α) : (Nat → Nat) → List (Nat × α) := Tr.rec (motive := fun _ => (Nat → Nat) → List (Nat × α)) (fun _ => []) (fun v _ _ l r f => Option.rec (motive := fun _ => List (Nat × α)) (l (fun k => f (Nat.succ (Nat.mul 2 k))) ++ r (fun k => f (Nat.succ (Nat.succ (Nat.mul 2 k))))) (fun x => (f 0, x) :: (l (fun k => f (Nat.succ (Nat.mul 2 k))) ++ r (fun k => f (Nat.succ (Nat.succ (Nat.mul 2 k)))))) v) t
theorem Tr.toL_mem : ∀ (t : Tr α) (f : Nat → Nat) (k : Nat) (x : α), t.get k = some x → (f k, x) ∈ t.toL f
  | .e, f, k, x, h => by cases (Tr.get_e k).symm.trans h
  | .n v l r, f, 0, x, h => by
    have : v = some x := h
    subst this
    exact List.mem_cons_self ..
  | .n v l r, f, k + 1, x, h => by
    rw [Tr.get_s] at h
    have key : (f (k + 1), x) ∈ l.toL (fun k => f (Nat.succ (Nat.mul 2 k))) ++ r.toL (fun k => f (Nat.succ (Nat.succ (Nat.mul 2 k)))) := by
      by_cases hk : k % 2 = 0
      · rw [if_pos hk] at h
        have := Tr.toL_mem l (fun k => f (Nat.succ (Nat.mul 2 k))) _ _ h
        have e : Nat.succ (Nat.mul 2 (k / 2)) = k + 1 := by show 2 * (k / 2) + 1 = k + 1; omega
        simp only [e] at this
        exact List.mem_append_left _ this
      · rw [if_neg hk] at h
        have := Tr.toL_mem r (fun k => f (Nat.succ (Nat.succ (Nat.mul 2 k)))) _ _ h
        have e : Nat.succ (Nat.succ (Nat.mul 2 (k / 2))) = k + 1 := by show 2 * (k / 2) + 1 + 1 = k + 1; omega
        simp only [e] at this
        exact List.mem_append_right _ this
    cases v with
    | none => exact key
    | some y => exact List.mem_cons_of_mem _ key
end
/-- blocks of a heap -/
noncomputable def pickL (ids : List Nat) (h : T) : List (Nat × Blk) := List.rec (motive := fun _ => List (Nat × Blk)) [] (fun id _ ih => Option.rec (motive := fun _ => List (Nat × Blk)) ih (fun b => (id, b) :: ih) (h.get id)) ids
theorem pickL_mem {h : T} {id : Nat} {b : Blk} : ∀ {ids : List Nat}, (id, b) ∈ pickL ids h ↔ id ∈ ids ∧ h.get id = some b
  | [] => by simp [pickL]
  | i :: ids => by
    have e : pickL (i :: ids) h = @Option.rec Blk (fun _ => List (Nat × Blk)) (pickL ids h) (fun b => (i, b) :: pickL ids h) (h.get i) := rfl
    rw [e]
    cases hg : h.get i with
    | none =>
      show (id, b) ∈ pickL ids h ↔ _
      rw [pickL_mem, List.mem_cons]
      refine ⟨fun ⟨h1, h2⟩ => ⟨.inr h1, h2⟩, fun ⟨h1, h2⟩ => ⟨?_, h2⟩⟩
      rcases h1 with rfl | h1
      · rw [hg] at h2; cases h2
      · exact h1
    | some c =>
      show (id, b) ∈ (i, c) :: pickL ids h ↔ _
      rw [List.mem_cons, pickL_mem, List.mem_cons]
      refine ⟨fun h => ?_, fun ⟨h1, h2⟩ => ?_⟩
      · rcases h with h1 | ⟨h1, h2⟩
        · cases h1; exact ⟨.inl rfl, hg⟩
        · exact ⟨.inr h1, h2⟩
      · rcases h1 with rfl | h1
        · rw [hg] at h2; cases h2; exact .inl rfl
        · exact .inr ⟨h1, h2⟩
theorem mkH_sub {h : T} {l : List (Nat × Blk)} (hl : ∀ id b, (id, b) ∈ l → h.get id = some b) (id : Nat) (b : Blk) (hb : (mkH .e l).get id = some b) : h.get id = some b := by
  rcases mkH_get (base := .e) (id := id) (l := l) with ⟨b', h1, h2⟩ | ⟨_, h2⟩
  · rw [hb] at h2; cases h2; exact hl id b h1
  · rw [hb] at h2; cases (Tr.get_e id).symm.trans h2.symm
/-- what a loop comes to, on blocks, whatever the truths are that lie about -/
def LoopQ (P : Program) (b : Code) (fuel nt lim : Nat) (bl0 : List (Nat × Blk)) (nx ec : Nat) (ts0 : List Nat) (vs0 : List AV) (bs ts : List Nat) (vs : List AV) (bl1 : List (Nat × Blk)) (nx1 : Nat) : Prop := ∀ os0 : Nat → Option AV, (∀ t, flatB (os0 t) = true) → ∃ os : Nat → Option AV, (∀ t, flatB (os t) = true) ∧
  RunE P fuel (.loop b) nt lim (mkFr nt (std ts0 vs0 bs os0)) (mkH .e bl0) nx (exOf ec) (mkFr nt (std ts vs bs os)) (mkH .e bl1) nx1
open Classical in
/-- the truths that lie about behind it -/
noncomputable def aboutQ {P : Program} {b : Code} {fuel nt lim : Nat} {bl0 bl1 : List (Nat × Blk)} {nx nx1 ec : Nat} {ts0 : List Nat} {vs0 : List AV} {ts : List Nat} {vs : List AV} (bs : List Nat) (fr : Fr) (hx : LoopQ P b fuel nt lim bl0 nx ec ts0 vs0 bs ts vs bl1 nx1) : Nat → Option AV := if hb : (bs.all fun t => flatB (fr.get t)) = true then (hx (aboutF bs fr) (aboutF_flat hb)).choose else fun _ => none
/-- a loop stands for its rounds; gs: variables that are laid; ws: blocks that it may write; all others are left behind -/
noncomputable def loopK (keys : List Nat) (P : Program) (b : Code) (ec : Nat) (ts0 bs ts gs ws : List Nat) (F : List AV → List (Nat × Blk) → Nat → Option (List AV × List (Nat × Blk) × Nat)) : LT := fun fuel nt lim fr h nx k => match okFr nt nx ts0 bs fr && ((h.toL (fun k => k)).all (fun x => Nat.ble lim x.1 || memN gs x.1) && keys.all (fun k => Nat.ble nt k)), F (slotsF ts0 fr) (pickL ws h) nx with
  | true, some (vs, nb, nx1) => needP (LoopQ P b fuel nt lim (pickL ws h ++ pickL gs h) nx ec ts0 (slotsF ts0 fr) bs ts vs (nb ++ pickL gs h) nx1) (fun _ => .err 93 1) fun hx => bsK bs fr (k (exOf ec) (tellF keys (mkFr nt (std ts vs bs (aboutQ bs fr hx)))) (mkH .e (nb ++ pickL gs h)) nx1)
  | _, _ => .err 93 2
theorem needP_ok {v : AV} {p : Prop} {E : ¬ p → Out} {o : p → Out} (hE : ∀ h, E h ≠ .ok v) (hk : needP p E o = .ok v) : ∃ h : p, o h = .ok v := by
  unfold needP at hk
  cases hd : Classical.propDecidable p with
  | isTrue h => rw [hd] at hk; exact ⟨h, hk⟩
  | isFalse h => rw [hd] at hk; exact absurd hk (hE h)
theorem RunOK.toldPost {nt lim nx n1 : Nat} {fr fr1 : Fr} {h h1 : T} {W : (Act → World → Prop) → Act → World → Prop} {keys : List Nat} (hk : ∀ k ∈ keys, nt ≤ k) (R : RunOK nt lim fr h nx fr1 h1 n1 W) : RunOK nt lim fr h nx (tellF keys fr1) h1 n1 W :=
  ⟨R.1, fun p r w act D H hf hfr N hN => R.2 p r w act D H hf hfr N fun act' w' ⟨r', x1, f1, H1, k1⟩ => hN act' w' ⟨r', x1, f1.told hk, H1, k1⟩⟩
theorem loopK_ok {keys : List Nat} {b : Code} {ec : Nat} {ts0 bs ts gs ws : List Nat} {F : List AV → List (Nat × Blk) → Nat → Option (List AV × List (Nat × Blk) × Nat)} : LoopOK P b (loopK keys P b ec ts0 bs ts gs ws F) := fun n nt lim fr h nx k v hl hk => by
  unfold loopK at hk
  split at hk
  case h_2 => cases hk
  rename_i vs nb nx1 hc hF
  simp only [Bool.and_eq_true] at hc
  obtain ⟨hok, hgs, hkeys⟩ := hc
  have hkeys : ∀ k ∈ keys, nt ≤ k := fun k hk => ble_iff.1 (List.all_eq_true.1 hkeys k hk)
  obtain ⟨hx, hk⟩ := needP_ok (fun _ h => (by cases h)) hk
  obtain ⟨hk, hb⟩ := bsK_ok hk
  have hc := (hx (aboutF bs fr) (aboutF_flat hb)).choose_spec
  have hab : aboutQ bs fr hx = (hx (aboutF bs fr) (aboutF_flat hb)).choose := by unfold aboutQ; rw [dif_pos hb]
  rw [hab] at hk
  refine ⟨_, _, _, _, hk, ?_⟩
  have R := hc.2
  have sub : ∀ id b, (mkH .e (pickL ws h ++ pickL gs h)).get id = some b → h.get id = some b := mkH_sub fun id b hm => by
    rcases List.mem_append.1 hm with hm | hm <;> exact (pickL_mem.1 hm).2
  have W : RunE P n (.loop b) nt lim fr (mkH .e (pickL ws h ++ pickL gs h)) nx (exOf ec) (mkFr nt (std ts vs bs (hx (aboutF bs fr) (aboutF_flat hb)).choose)) (mkH .e (nb ++ pickL gs h)) nx1 := by
    unfold okFr at hok
    simp only [Bool.and_eq_true] at hok
    obtain ⟨d1, d3⟩ := hok
    refine RunE.weak (exOf_fine ec) (fun t o hm => ?_) (fun t ht hno => ?_) R
    · rcases List.mem_append.1 hm with hm | hm
      · have e1 : (slotsF ts0 fr).map some = ts0.map fun t => some ((fr.get t).getD (.tu [])) := by unfold slotsF; rw [List.map_map]; rfl
        have e2 := map_zip _ e1 hm
        have := List.all_eq_true.1 d1 t (List.of_mem_zip hm).1
        cases hg : fr.get t with
        | none => rw [hg] at this; cases this
        | some a => rw [e2, hg]; rfl
      · obtain ⟨t', h1, h2⟩ := List.mem_map.1 hm
        cases h2
        unfold aboutF
        rw [if_pos (memN_iff.2 h1)]
    · have := List.all_eq_true.1 d3 t (List.mem_range.2 ht)
      simp only [Bool.or_eq_true] at this
      rcases this with h | h | h
      · obtain ⟨v, hv⟩ := zip_mem_left (m := (slotsF ts0 fr).map some) (by unfold slotsF; rw [List.length_map, List.length_map]) (memN_iff.1 h)
        exact absurd (List.mem_append_left _ hv) (hno _)
      · exact absurd (List.mem_append_right _ (List.mem_map.2 ⟨t, memN_iff.1 h, rfl⟩)) (hno _)
      · exact h
  have W := W.ok (exOf_fine ec)
  have low : ∀ j, j < lim → (mkH .e (pickL ws h ++ pickL gs h)).get j = h.get j := fun j hj => by
    cases hg : h.get j with
    | none =>
      cases hm : (mkH .e (pickL ws h ++ pickL gs h)).get j with
      | none => rfl
      | some b => have := sub j b hm; rw [hg] at this; cases this
    | some b =>
      have hm := Tr.toL_mem h (fun k => k) j b hg
      have := List.all_eq_true.1 hgs _ hm
      simp only [Bool.or_eq_true] at this
      rcases this with h1 | h1
      · have := ble_iff.1 h1; omega
      · rcases mkH_get (base := .e) (id := j) (l := pickL ws h ++ pickL gs h) with ⟨b', q1, q2⟩ | ⟨q1, _⟩
        · rw [q2]
          have := sub j b' q2
          rw [hg] at this
          exact this.symm
        · exact absurd (List.mem_append_right _ (pickL_mem.2 ⟨memN_iff.1 h1, hg⟩)) (q1 b)
  refine RunE.of (exOf_fine ec) (RunOK.toldPost hkeys ⟨⟨W.1.le, fun j hj => by rw [W.1.old j hj, low j hj], fun j hj hk => W.1.out j ?_ hk, fun j b hb hr => sub j b (W.1.ro j b hb hr)⟩, fun p r w act D H hf hfr N hN => W.2 p r w act D (H.part sub) hf hfr N hN⟩)
  cases hm : (mkH .e (pickL ws h ++ pickL gs h)).get j with
  | none => rfl
  | some b => have := sub j b hm; rw [hj] at this; cases this
noncomputable def loopQ (P : Program) (b : Code) (ec : Nat) (ts0 bs ts gs ws : List Nat) (F : List AV → List (Nat × Blk) → Nat → Option (List AV × List (Nat × Blk) × Nat)) : LT := loopK [] P b ec ts0 bs ts gs ws F
theorem loopQ_ok {b : Code} {ec : Nat} {ts0 bs ts gs ws : List Nat} {F : List AV → List (Nat × Blk) → Nat → Option (List AV × List (Nat × Blk) × Nat)} : LoopOK P b (loopQ P b ec ts0 bs ts gs ws F) := loopK_ok
/-- a round, and what comes behind it -/
theorem LoopQ.out {b : Code} {n fuel nt lim nx nx1 ec : Nat} {bl0 bl1 : List (Nat × Blk)} {ts0 bs ts : List Nat} {vs0 vs : List AV} (hn : exOf ec ≠ .nor) (hf : n < fuel) (H : ∀ os0 : Nat → Option AV, (∀ t, flatB (os0 t) = true) → ∃ os : Nat → Option AV, (∀ t, flatB (os t) = true) ∧ RunE P n b nt lim (mkFr nt (std ts0 vs0 bs os0)) (mkH .e bl0) nx (exOf ec) (mkFr nt (std ts vs bs os)) (mkH .e bl1) nx1) : LoopQ P b fuel nt lim bl0 nx ec ts0 vs0 bs ts vs bl1 nx1 := fun os0 h0 => by
  obtain ⟨os, h1, R⟩ := H os0 h0
  exact ⟨os, h1, (RunE.loop_out (exOf_fine ec) hn R).upto hf⟩
theorem LoopQ.more {b : Code} {n fuel nt lim nx nx1 nx2 ec : Nat} {bl0 bl1 bl2 : List (Nat × Blk)} {ts0 bs ts : List Nat} {vs0 vs1 vs : List AV} (hf : n ≤ fuel) (H : ∀ os0 : Nat → Option AV, (∀ t, flatB (os0 t) = true) → ∃ os : Nat → Option AV, (∀ t, flatB (os t) = true) ∧ RunE P n b nt lim (mkFr nt (std ts0 vs0 bs os0)) (mkH .e bl0) nx (exOf 0) (mkFr nt (std ts0 vs1 bs os)) (mkH .e bl1) nx1)
    (K : LoopQ P b fuel nt lim bl1 nx1 ec ts0 vs1 bs ts vs bl2 nx2) : LoopQ P b (fuel + 1) nt lim bl0 nx ec ts0 vs0 bs ts vs bl2 nx2 := fun os0 h0 => by
  obtain ⟨os, h1, R⟩ := H os0 h0
  obtain ⟨os', h2, S⟩ := K os h1
  exact ⟨os', h2, RunE.loop_more (exOf_fine ec) (R.upto hf) S⟩
theorem LoopQ.upto {b : Code} {n fuel nt lim nx nx1 ec : Nat} {bl0 bl1 : List (Nat × Blk)} {ts0 bs ts : List Nat} {vs0 vs : List AV} (L : LoopQ P b n nt lim bl0 nx ec ts0 vs0 bs ts vs bl1 nx1) (hf : n ≤ fuel) : LoopQ P b fuel nt lim bl0 nx ec ts0 vs0 bs ts vs bl1 nx1 := fun os0 h0 => by
  obtain ⟨os, h1, R⟩ := L os0 h0
  exact ⟨os, h1, R.upto hf⟩
theorem mkH_app (l : List (Nat × Blk)) : ∀ m : List (Nat × Blk), mkH (mkH .e l) m = mkH .e (m ++ l)
  | [] => rfl
  | x :: m => by rw [mkH, mkH_app l m]; rfl
/-- blocks that stay as they are, below lim; what is laid -/
structure Bs (lim nx : Nat) (l : List (Nat × Blk)) : Prop where
  low : ∀ x ∈ l, x.1 < lim
  le : lim ≤ nx
  und : ∀ x ∈ l, x.2.und nx = true
/-- what a part's run says, on blocks whose numbers stay -/
theorem segQ {rec : Job} {n nt lim nx ec : Nat} {c : Code} {keys ts0 ts bs : List Nat} {vs0 vs : List AV} {os0 : Nat → Option AV} {gl bl0 : List (Nat × Blk)} {hs : List HS} {cs : List (List AV)} (J : JobOK P n rec) (B : Bs lim nx gl) (ho : ∀ t, flatB (os0 t) = true)
    (hk : rec nt lim c (tellF keys (mkFr nt (std ts0 vs0 bs os0))) (mkH (mkH .e gl) bl0) nx (finK ec nt nx ts bs hs) = .ok (.tu (vs ++ cs.map .ag))) (hlen : vs.length = ts.length)
    (hkeys : (keys.all fun k => Nat.ble nt k) = true) (h1000 : 1000 ≤ nx) (hu0 : AV.unds nx vs0 = true) (hbl : ∀ x ∈ bl0, lim ≤ x.1 ∧ x.1 < nx ∧ x.2.und nx = true) (hids : hs.map (·.1) = bl0.map (·.1)) (hro : ∀ p ∈ newH hs cs, p.2.ro = false) (huc : ∀ c ∈ cs, AV.unds nx c = true) :
    ∃ os : Nat → Option AV, (∀ t, flatB (os t) = true) ∧ RunE P n c nt lim (mkFr nt (std ts0 vs0 bs os0)) (mkH .e (bl0 ++ gl)) nx (exOf ec) (mkFr nt (std ts vs bs os)) (mkH .e (newH hs cs ++ gl)) nx := by
  have hg : ∀ id b, (mkH .e gl).get id = some b → (id, b) ∈ gl := fun id b hb => by
    rcases mkH_get (base := .e) (id := id) (l := gl) with ⟨b', h1, h2⟩ | ⟨_, h2⟩
    · rw [hb] at h2; cases h2; exact h1
    · rw [hb] at h2; cases (Tr.get_e id).symm.trans h2.symm
  have hH : HU nx (mkH (mkH .e gl) bl0) := fun id b hb => by
    rcases mkH_get (base := mkH .e gl) (id := id) (l := bl0) with ⟨b', h1, h2⟩ | ⟨_, h2⟩
    · rw [hb] at h2
      cases h2
      exact (hbl _ h1).2
    · rw [hb] at h2
      have hm := hg _ _ h2.symm
      exact ⟨Nat.lt_of_lt_of_le (B.low _ hm) B.le, B.und _ hm⟩
  have := seg (base := mkH .e gl) (bl0 := bl0) (hs := hs) (vs := vs) (cs := cs) J hk hlen (fun k hk => ble_iff.1 (List.all_eq_true.1 hkeys k hk)) ⟨B.le, fun j hj => ?_⟩ h1000 (undF_std hu0 ho) hH hids (fun id b hb => B.low _ (hg id b hb)) (fun x hx => ?_) hro huc
  · rw [mkH_app, mkH_app] at this
    exact this
  · cases hgj : (mkH (mkH .e gl) bl0).get j with
    | none => rfl
    | some b => have := (hH j b hgj).1; omega
  · have : x.1 ∈ bl0.map (·.1) := by rw [← hids]; exact List.mem_map.2 ⟨x, hx, rfl⟩
    obtain ⟨y, h1, h2⟩ := List.mem_map.1 this
    rw [← h2]
    exact (hbl y h1).1
/-- what a call comes to: its answer, which shows no block, and blocks -/
noncomputable def finC (hs : List HS) : KV := fun v h _ => match v.flt && hs.all fun x => (cellsH h x).isSome with
  | true => .ok (.tu (v :: hs.map fun x => .ag ((cellsH h x).getD [])))
  | false => .err 94 0
noncomputable def runC (L : Code → Option LT) (P : Program) (X : XT) (n lim : Nat) (f : FuncId) (args : List AV) (h : T) (nx : Nat) (hs : List HS) : Out := enterK P X (evL L P X n) lim f args h nx (finC hs)
/-- a call's run, as what it comes to -/
theorem con_of {L : Code → Option LT} {X : XT} (hp : Plain P) (hX : XOK P X) (hdr : DrOK P) (hL : LOK P L) {n lim nx : Nat} {f : FuncId} {args : List AV} {gl bl0 : List (Nat × Blk)} {hs : List HS} {v : AV} {cs : List (List AV)}
    (hk : runC L P X n lim f args (mkH (mkH .e gl) bl0) nx hs = .ok (.tu (v :: cs.map .ag))) (B : Bs lim nx gl) (h1000 : 1000 ≤ lim) (hua : AV.unds nx args = true) (hbl : ∀ x ∈ bl0, lim ≤ x.1 ∧ x.1 < nx ∧ x.2.und nx = true) (hids : hs.map (·.1) = bl0.map (·.1)) (hro : ∀ p ∈ newH hs cs, p.2.ro = false) (huc : ∀ c ∈ cs, AV.unds nx c = true) :
    v.flt = true ∧ Con P f lim args (mkH .e (bl0 ++ gl)) nx v (mkH .e (newH hs cs ++ gl)) nx := by
  have hg : ∀ id b, (mkH .e gl).get id = some b → (id, b) ∈ gl := fun id b hb => by
    rcases mkH_get (base := .e) (id := id) (l := gl) with ⟨b', h1, h2⟩ | ⟨_, h2⟩
    · rw [hb] at h2; cases h2; exact h1
    · rw [hb] at h2; cases (Tr.get_e id).symm.trans h2.symm
  rw [mkH_app] at hk
  have hH : HU nx (mkH .e (bl0 ++ gl)) := fun id b hb => by
    have hm : (id, b) ∈ bl0 ++ gl := by
      rcases mkH_get (base := .e) (id := id) (l := bl0 ++ gl) with ⟨b', h1, h2⟩ | ⟨_, h2⟩
      · rw [hb] at h2; cases h2; exact h1
      · rw [hb] at h2; cases (Tr.get_e id).symm.trans h2.symm
    rcases List.mem_append.1 hm with hm | hm
    · exact (hbl _ hm).2
    · exact ⟨Nat.lt_of_lt_of_le (B.low _ hm) B.le, B.und _ hm⟩
  have hT : Top lim (mkH .e (bl0 ++ gl)) nx := ⟨B.le, fun j hj => by
    cases hgj : (mkH .e (bl0 ++ gl)).get j with
    | none => rfl
    | some b => have := (hH j b hgj).1; omega⟩
  obtain ⟨a, h', nx', hk, hkeep, hsem⟩ := enterK_ok hp hX (evL_ok hp hX hdr hL n) lim f args _ nx _ _ hT hk
  unfold finC at hk
  split at hk
  case h_2 => cases hk
  rename_i hc
  simp only [Bool.and_eq_true] at hc
  obtain ⟨hflt, hsome⟩ := hc
  simp only [Out.ok.injEq, AV.tu.injEq, List.cons.injEq] at hk
  obtain ⟨rfl, i2⟩ := hk
  have hlow : ∀ x ∈ hs, lim ≤ x.1 := fun x hx => by
    have : x.1 ∈ bl0.map (·.1) := by rw [← hids]; exact List.mem_map.2 ⟨x, hx, rfl⟩
    obtain ⟨y, h1, h2⟩ := List.mem_map.1 this
    rw [← h2]
    exact (hbl y h1).1
  have e1 : cs = hs.map fun x => (cellsH h' x).getD [] := by
    have : (cs.map AV.ag) = (hs.map fun x => (cellsH h' x).getD []).map AV.ag := by rw [← i2, List.map_map]; rfl
    exact map_ag this
  have hcell : ∀ x c, (x, c) ∈ hs.zip cs → h'.get x.1 = some (.c c x.2.1 x.2.2.1 x.2.2.2) := fun x c hm => by
    have e2 := map_zip _ e1 hm
    have := List.all_eq_true.1 hsome x (List.of_mem_zip hm).1
    cases hg : cellsH h' x with
    | none => rw [hg] at this; cases this
    | some a => rw [hg] at e2; rw [cellsH_ok hg, e2]; rfl
  have same : ∀ id, id < lim → ∀ b, (id, b) ∉ bl0 := fun id hid b hb => by
    have := (hbl _ hb).1
    simp only at this
    omega
  have bnd : ∀ id b, (mkH .e (newH hs cs ++ gl)).get id = some b → h'.get id = some b ∧ id < nx ∧ b.und nx = true ∧ (b.ro = true → (mkH .e (bl0 ++ gl)).get id = some b) := fun id b hb => by
    rw [← mkH_app] at hb
    rcases mkH_get (base := mkH .e gl) (id := id) (l := newH hs cs) with ⟨b', m1, m2⟩ | ⟨m1, m2⟩
    · rw [hb] at m2
      cases m2
      obtain ⟨x, c, z1, z2, z3⟩ := newH_mem m1
      subst z2 z3
      refine ⟨hcell x c z1, ?_, huc c (List.of_mem_zip z1).2, fun hr => ?_⟩
      · have : x.1 ∈ bl0.map (·.1) := by rw [← hids]; exact List.mem_map.2 ⟨x, (List.of_mem_zip z1).1, rfl⟩
        obtain ⟨y, h1, h2⟩ := List.mem_map.1 this
        rw [← h2]
        exact (hbl y h1).2.1
      · have := hro _ m1
        rw [this] at hr
        cases hr
    · rw [m2] at hb
      have hm := hg id b hb
      have hid := B.low _ hm
      have e : (mkH .e (bl0 ++ gl)).get id = some b := by
        rw [← mkH_app]
        rcases mkH_get (base := mkH .e gl) (id := id) (l := bl0) with ⟨b2, p1, _⟩ | ⟨_, p2⟩
        · exact absurd p1 (same id hid b2)
        · rw [p2]; exact hb
      exact ⟨by rw [hkeep.old id hid]; exact e, Nat.lt_of_lt_of_le hid B.le, B.und _ hm, fun _ => e⟩
  have keep : Keeps lim (mkH .e (bl0 ++ gl)) nx (mkH .e (newH hs cs ++ gl)) nx := by
    refine ⟨Nat.le_refl _, fun j hj => ?_, fun j hj _ => ?_, fun j b hb hr => (bnd j b hb).2.2.2 hr⟩
    · rw [← mkH_app, ← mkH_app]
      have e2 : (mkH (mkH .e gl) (newH hs cs)).get j = (mkH .e gl).get j := by
        rcases mkH_get (base := mkH .e gl) (id := j) (l := newH hs cs) with ⟨b2, p1, _⟩ | ⟨_, p2⟩
        · obtain ⟨x, c, z1, z2, _⟩ := newH_mem p1
          have := hlow x (List.of_mem_zip z1).1
          omega
        · exact p2
      have e1 : (mkH (mkH .e gl) bl0).get j = (mkH .e gl).get j := by
        rcases mkH_get (base := mkH .e gl) (id := j) (l := bl0) with ⟨b2, p1, _⟩ | ⟨_, p2⟩
        · exact absurd p1 (same j hj b2)
        · exact p2
      rw [e1, e2]
    · rw [← mkH_app] at hj ⊢
      rcases mkH_get (base := mkH .e gl) (id := j) (l := newH hs cs) with ⟨b2, p1, _⟩ | ⟨_, p2⟩
      · obtain ⟨x, c, z1, z2, _⟩ := newH_mem p1
        have : j ∈ bl0.map (·.1) := by rw [← hids]; exact List.mem_map.2 ⟨x, (List.of_mem_zip z1).1, z2.symm⟩
        obtain ⟨b0, q⟩ := mem_ids this
        rcases mkH_get (base := mkH .e gl) (id := j) (l := bl0) with ⟨b3, _, p3⟩ | ⟨p3, _⟩
        · rw [hj] at p3; cases p3
        · exact absurd q (p3 _)
      · rcases mkH_get (base := mkH .e gl) (id := j) (l := bl0) with ⟨b3, _, p3⟩ | ⟨_, p3⟩
        · rw [hj] at p3; cases p3
        · rw [p2, ← p3]; exact hj
  refine ⟨hflt, h1000, hH, fun id b hb => ⟨(bnd id b hb).2.1, (bnd id b hb).2.2.1⟩, hua, ?_, keep, fun p r w xs H hf hx => ?_⟩
  · exact flt_und hflt
  · have hr : ∀ id, id < nx → cutR nx r id = r id := fun id hid => cutR_lt id hid
    refine (hsem p (cutR nx r) w xs (H.cut hH (Nat.le_trans h1000 B.le)) (fun id h1 h2 => if_neg (by omega)) (VRs.und hr _ _ hua hx)).mono (fun z w' ⟨r2, x2, v2, H2, k2⟩ => ?_) fun c w' hL => ?_
    · have hr2 : ∀ id, id < nx → r id = r2 id := fun id hid => by rw [x2 id (.inl hid)]; exact (hr id hid).symm
      exact ⟨r, Ext.refl _ _ _, VR.flt _ _ hflt v2, HR.drop hr2 H2 (fun id b hb => ⟨(bnd id b hb).1, (bnd id b hb).2.1, (bnd id b hb).2.2.1⟩) H.glob, k2⟩
    · exact (no_pa (fun x hx => by rw [hx] at hflt; cases hflt) hL).elim
end Clu
end Go.Proofs.Ythghohgjedjpbaa
