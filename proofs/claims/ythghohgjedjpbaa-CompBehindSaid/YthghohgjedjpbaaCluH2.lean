/-
  Runs at whatever arguments: calls that make rows, and look at rows, stand for their runs.
-/
import Derived.Test.YthghohgjedjpbaaCluH1
namespace Go.Proofs.Ythghohgjedjpbaa
namespace Clu
open Go.RowKit
set_option linter.unusedVariables false
variable {P : Program}
mutual
theorem und_up {n m : Nat} (h : n ≤ m) : ∀ {a : AV}, a.und n = true → a.und m = true
  | .b _, _ | .i _ _, _ | .s _ _, _ | .pn, _ | .sn, _ | .ni, _ | .nf, _ | .mn, _ | .se, _ | .jk, _ => rfl
  | .p id _, k | .sl id _ _ _, k | .so id _ _ _, k | .mp id, k => blt_iff.2 (Nat.lt_of_lt_of_le (blt_iff.1 (by simpa [AV.und] using k)) h)
  | .ag l, k | .tu l, k => unds_up h (l := l) (by simpa [AV.und] using k)
  | .fa _ a, k => und_up h (a := a) (by simpa [AV.und] using k)
  | .fn _ a c, k => by
    simp only [AV.und, Bool.and_eq_true] at k ⊢
    exact ⟨unds_up h k.1, unds_up h k.2⟩
  | .pa _, k => by simp [AV.und] at k
theorem unds_up {n m : Nat} (h : n ≤ m) : ∀ {l : List AV}, AV.unds n l = true → AV.unds m l = true
  | [], _ => rfl
  | a :: l, k => by
    simp only [AV.unds, Bool.and_eq_true] at k ⊢
    exact ⟨und_up h k.1, unds_up h k.2⟩
end
mutual
theorem ren_id {n : Nat} {σ : Nat → Nat} (h : ∀ i, i < n → σ i = i) : ∀ {a : AV}, a.und n = true → a.ren σ = a
  | .b _, _ | .i _ _, _ | .s _ _, _ | .pn, _ | .sn, _ | .ni, _ | .nf, _ | .mn, _ | .se, _ | .jk, _ => rfl
  | .p id _, k | .sl id _ _ _, k | .so id _ _ _, k | .mp id, k => by rw [AV.ren, h id (blt_iff.1 (by simpa [AV.und] using k))]
  | .ag l, k | .tu l, k => by rw [AV.ren, rens_id h (l := l) (by simpa [AV.und] using k)]
  | .fa _ a, k => by rw [AV.ren, ren_id h (a := a) (by simpa [AV.und] using k)]
  | .fn _ a c, k => by
    simp only [AV.und, Bool.and_eq_true] at k
    rw [AV.ren, rens_id h k.1, rens_id h k.2]
  | .pa _, k => by simp [AV.und] at k
theorem rens_id {n : Nat} {σ : Nat → Nat} (h : ∀ i, i < n → σ i = i) : ∀ {l : List AV}, AV.unds n l = true → AV.rens σ l = l
  | [], _ => rfl
  | a :: l, k => by
    simp only [AV.unds, Bool.and_eq_true] at k
    rw [AV.rens, ren_id h k.1, rens_id h k.2]
end
theorem Blk.und_up {n m : Nat} {b : Blk} (k : b.und n = true) (h : n ≤ m) : b.und m = true := by
  cases b with
  | c cs fz osz pl => exact unds_up h k
  | it n N pos => rfl
  | mp es clock =>
    show (es.all fun e => AV.und m e.1 && AV.und m e.2.1) = true
    refine List.all_eq_true.2 fun e he => ?_
    have := List.all_eq_true.1 (show (es.all fun e => AV.und n e.1 && AV.und n e.2.1) = true from k) e he
    simp only [Bool.and_eq_true] at this ⊢
    exact ⟨Clu.und_up h this.1, Clu.und_up h this.2⟩
theorem Blk.ren_id {n : Nat} {b : Blk} {σ : Nat → Nat} (k : b.und n = true) (h : ∀ i, i < n → σ i = i) : b.ren σ = b := by
  cases b with
  | c cs fz osz pl =>
    have k : AV.unds n cs = true := k
    simp only [Blk.ren, rens_id h k]
  | it n N pos => rfl
  | mp es clock =>
    have k : (es.all fun e => AV.und n e.1 && AV.und n e.2.1) = true := k
    simp only [Blk.ren]
    congr 1
    refine (List.map_congr_left fun e he => ?_).trans (List.map_id es)
    have := List.all_eq_true.1 k e he
    simp only [Bool.and_eq_true] at this
    rw [Clu.ren_id h this.1, Clu.ren_id h this.2]
    rfl
mutual
/-- the blocks that a value shows -/
def AV.ids : AV → List Nat
  | .p id _ => [id]
  | .sl id _ _ _ => [id]
  | .so id _ _ _ => [id]
  | .mp id => [id]
  | .ag l => AV.idsL l
  | .tu l => AV.idsL l
  | .fa _ a => AV.ids a
  | .fn _ a c => AV.idsL a ++ AV.idsL c
  | .pa a => AV.ids a
  | _ => []
def AV.idsL : List AV → List Nat
  | [] => []
  | a :: l => AV.ids a ++ AV.idsL l
end
/-- what a call comes to: its answer, and the blocks that are asked for, by the first list of them that is there -/
noncomputable def finV : Nat → List (List HS) → KV
  | _, [] => fun _ _ _ => .err 94 1
  | i, hs :: l => fun v h n => match (hs.all fun x => (cellsH h x).isSome) && hs.all fun x => memN v.ids x.1 with
    | true => .ok (.tu (.i .i64 (.ofNat i) :: v :: hs.map fun x => .ag ((cellsH h x).getD [])))
    | false => finV (Nat.succ i) l v h n
noncomputable def runV (L : Code → Option LT) (P : Program) (X : XT) (n lim : Nat) (f : FuncId) (args : List AV) (h : T) (nx : Nat) (alts : List (List HS)) : Out := enterK P X (evL L P X n) lim f args h nx (finV 0 alts)
theorem finV_ok {v a : AV} {h : T} {n j : Nat} {l : List AV} : ∀ {alts : List (List HS)} {i : Nat}, finV i alts a h n = .ok (.tu (.i .i64 (.ofNat j) :: v :: l)) → ∃ hs, i ≤ j ∧ alts[j - i]? = some hs ∧ a = v ∧ (hs.all fun x => (cellsH h x).isSome) = true ∧ (hs.map fun x => AV.ag ((cellsH h x).getD [])) = l
  | [], i, hk => by cases hk
  | hs :: alts, i, hk => by
    unfold finV at hk
    split at hk
    · rename_i hc
      simp only [Bool.and_eq_true] at hc
      simp only [Out.ok.injEq, AV.tu.injEq, List.cons.injEq, AV.i.injEq, true_and] at hk
      obtain ⟨h1, h2, h3⟩ := hk
      have h1 := Int.ofNat.inj h1
      subst h1
      exact ⟨hs, Nat.le_refl _, by rw [Nat.sub_self]; rfl, h2, hc.1, h3⟩
    · obtain ⟨y, h1, h2, h3⟩ := finV_ok (alts := alts) hk
      have h1 : i + 1 ≤ j := h1
      have h2 : alts[j - (i + 1)]? = some y := h2
      refine ⟨y, by omega, ?_, h3⟩
      rw [show j - i = (j - (i + 1)) + 1 by omega]
      exact h2
/-- blocks that have come, by their numbers -/
def outS (lim : Nat) (hs : List HS) (i : Nat) : Nat := if i < lim then i else ((hs[i - lim]?).map (·.1)).getD i
def comeB : Nat → List HS → List (List AV) → List (Nat × Blk)
  | n, x :: hs, c :: cs => (n, .c c x.2.1 x.2.2.1 x.2.2.2) :: comeB (n + 1) hs cs
  | _, _, _ => []
theorem comeB_mem {id : Nat} {b : Blk} : ∀ {hs : List HS} {cs : List (List AV)} {n : Nat}, (id, b) ∈ comeB n hs cs → ∃ i x c, id = n + i ∧ hs[i]? = some x ∧ cs[i]? = some c ∧ b = .c c x.2.1 x.2.2.1 x.2.2.2
  | [], _, _, h => by simp [comeB] at h
  | _ :: _, [], _, h => by simp [comeB] at h
  | x :: hs, c :: cs, n, h => by
    rw [comeB] at h
    rcases List.mem_cons.1 h with h | h
    · cases h
      exact ⟨0, x, c, rfl, rfl, rfl, rfl⟩
    · obtain ⟨i, y, d, h1, h2, h3, h4⟩ := comeB_mem h
      exact ⟨i + 1, y, d, by omega, by simpa using h2, by simpa using h3, h4⟩
theorem mkH_mem {l : List (Nat × Blk)} {id : Nat} {b : Blk} (hb : (mkH .e l).get id = some b) : (id, b) ∈ l := gl_mem hb
/-- a call's run, as what it comes to: blocks that have come get the numbers behind those that were there -/
theorem con_new {L : Code → Option LT} {X : XT} (hp : Plain P) (hX : XOK P X) (hdr : DrOK P) (hL : LOK P L) {n lim : Nat} {f : FuncId} {args : List AV} {gl : List (Nat × Blk)} {alts : List (List HS)} {v : AV} {cs : List (List AV)} (j : Nat) (hs : List HS) (v0 : AV)
    (hk : runV L P X n lim f args (mkH .e gl) lim alts = .ok (.tu (.i .i64 (.ofNat j) :: v :: cs.map .ag))) (hj : alts[j]? = some hs) (B : Bs lim lim gl) (h1000 : 1000 ≤ lim) (hua : AV.unds lim args = true)
    (hv : v0.ren (outS lim hs) = v) (hv0 : v0.und (lim + hs.length) = true) (hnp : ∀ x, v ≠ .pa x) (hcs : ∀ c ∈ cs, AV.flts c = true) (hfz : (hs.all fun x => Nat.beq x.2.1 0) = true) (hnd : (hs.map (·.1)).Nodup) (hge : ∀ x ∈ hs, lim ≤ x.1) :
    Con P f lim args (mkH .e gl) lim v0 (mkH .e (comeB lim hs cs ++ gl)) (lim + hs.length) := by
  have hH : HU lim (mkH .e gl) := fun id b hb => ⟨B.low _ (mkH_mem hb), B.und _ (mkH_mem hb)⟩
  have hT : Top lim (mkH .e gl) lim := ⟨Nat.le_refl _, fun j hj => by
    cases hg : (mkH .e gl).get j with
    | none => rfl
    | some b => have := (hH j b hg).1; omega⟩
  obtain ⟨a, h', nx', hk, hkeep, hsem⟩ := enterK_ok hp hX (evL_ok hp hX hdr hL n) lim f args _ lim _ _ hT hk
  obtain ⟨hs', _, q2, rfl, q4, q5⟩ := finV_ok hk
  rw [Nat.sub_zero, hj] at q2
  cases q2
  have e1 : cs = hs.map fun x => (cellsH h' x).getD [] := by
    have : (cs.map AV.ag) = (hs.map fun x => (cellsH h' x).getD []).map AV.ag := by rw [← q5, List.map_map]; rfl
    exact map_ag this
  have hcell : ∀ (i : Nat) (x : HS) (c : List AV), hs[i]? = some x → cs[i]? = some c → h'.get x.1 = some (.c c x.2.1 x.2.2.1 x.2.2.2) := fun i x c hx hc => by
    have := List.all_eq_true.1 q4 x (List.mem_of_getElem? hx)
    rw [e1, List.getElem?_map, hx] at hc
    simp only [Option.map_some, Option.some.injEq] at hc
    cases hg : cellsH h' x with
    | none => rw [hg] at this; cases this
    | some a =>
      rw [hg] at hc
      simp only [Option.getD_some] at hc
      subst hc
      exact cellsH_ok hg
  have hσ : ∀ (i : Nat) (x : HS), hs[i]? = some x → outS lim hs (lim + i) = x.1 := fun i x hx => by
    unfold outS
    rw [if_neg (by omega), show lim + i - lim = i by omega, hx]
    rfl
  have hσl : ∀ id, id < lim → outS lim hs id = id := fun id hid => if_pos hid
  have bnd : ∀ id b, (mkH .e (comeB lim hs cs ++ gl)).get id = some b → id < lim + hs.length ∧ b.und (lim + hs.length) = true ∧ h'.get (outS lim hs id) = some b ∧ b.ren (outS lim hs) = b ∧ (b.ro = true → (mkH .e gl).get id = some b) := fun id b hb => by
    rcases List.mem_append.1 (mkH_mem hb) with hm | hm
    · obtain ⟨i, x, c, rfl, h2, h3, rfl⟩ := comeB_mem hm
      have hi : i < hs.length := (List.getElem?_eq_some_iff.1 h2).1
      have hfl := hcs c (List.mem_of_getElem? h3)
      refine ⟨by omega, flts_unds hfl, ?_, ?_, fun hr => ?_⟩
      · rw [hσ i x h2]; exact hcell i x c h2 h3
      · simp only [Blk.ren, rens_flt hfl]
      · have := beq_iff.1 (List.all_eq_true.1 hfz x (List.mem_of_getElem? h2))
        have hr : Nat.blt c.length x.2.1 = true := hr
        have hr := blt_iff.1 hr
        omega
    · have hid := B.low _ hm
      simp only at hid
      have hgl : (mkH .e gl).get id = some b := by
        rw [← mkH_app] at hb
        rcases mkH_get (base := mkH .e gl) (id := id) (l := comeB lim hs cs) with ⟨b2, p1, _⟩ | ⟨_, p2⟩
        · obtain ⟨i, _, _, h1, _⟩ := comeB_mem p1
          omega
        · rw [← p2]; exact hb
      refine ⟨by omega, ?_, ?_, ?_, fun _ => hgl⟩
      · have := (hH id b hgl).2
        exact Blk.und_up this (by omega)
      · rw [hσl id hid, hkeep.old id hid]; exact hgl
      · exact Blk.ren_id (hH id b hgl).2 fun i hi => hσl i hi
  have base : ∀ id, id < lim → (mkH .e (comeB lim hs cs ++ gl)).get id = (mkH .e gl).get id := fun id hid => by
    rw [← mkH_app]
    rcases mkH_get (base := mkH .e gl) (id := id) (l := comeB lim hs cs) with ⟨b2, p1, _⟩ | ⟨_, p2⟩
    · obtain ⟨i, _, _, h1, _⟩ := comeB_mem p1
      omega
    · exact p2
  refine ⟨h1000, hH, fun id b hb => ⟨(bnd id b hb).1, (bnd id b hb).2.1⟩, hua, hv0, ⟨by omega, fun j hj => base j hj, fun j hj hjo => ?_, fun j b hb hr => (bnd j b hb).2.2.2.2 hr⟩, fun p r w xs H hf hx => ?_⟩
  · cases hg : (mkH .e (comeB lim hs cs ++ gl)).get j with
    | none => rfl
    | some b =>
      have := (bnd j b hg).1
      rcases hjo with h1 | h1
      · rw [base j h1, hj] at hg; cases hg
      · omega
  · have hr : ∀ id, id < lim → cutR lim r id = r id := fun id hid => cutR_lt id hid
    refine (hsem p (cutR lim r) w xs (H.cut hH h1000) (fun id h1 h2 => if_neg (by omega)) (VRs.und hr _ _ hua hx)).mono (fun z w' ⟨r2, x2, v2, H2, k2⟩ => ?_) fun c w' hL => (no_pa hnp hL).elim
    let r3 : Rn := fun id => if lim ≤ id ∧ id < lim + hs.length then r2 (outS lim hs id) else r id
    have hr3 : ∀ id, id < lim + hs.length → r3 id = r2 (outS lim hs id) := fun id hid => by
      by_cases h1 : lim ≤ id
      · exact if_pos ⟨h1, hid⟩
      · show (if lim ≤ id ∧ id < lim + hs.length then r2 (outS lim hs id) else r id) = _
        rw [if_neg (by omega), hσl id (by omega), x2 id (.inl (by omega)), hr id (by omega)]
    have inj : ∀ i j, i < lim + hs.length → j < lim + hs.length → outS lim hs i = outS lim hs j → i = j := fun i j hi hj e => by
      have get : ∀ i, lim ≤ i → i < lim + hs.length → ∃ x, hs[i - lim]? = some x ∧ outS lim hs i = x.1 ∧ lim ≤ x.1 := fun i h1 h2 => by
        obtain ⟨x, hx⟩ : ∃ x, hs[i - lim]? = some x := ⟨_, List.getElem?_eq_getElem (by omega)⟩
        refine ⟨x, hx, ?_, hge x (List.mem_of_getElem? hx)⟩
        have := hσ (i - lim) x hx
        rw [show lim + (i - lim) = i by omega] at this
        exact this
      by_cases h1 : i < lim
      · by_cases h2 : j < lim
        · rw [hσl i h1, hσl j h2] at e; exact e
        · obtain ⟨x, _, q, q'⟩ := get j (by omega) hj
          rw [hσl i h1, q] at e; omega
      · obtain ⟨x, y1, y2, y3⟩ := get i (by omega) hi
        by_cases h2 : j < lim
        · rw [hσl j h2, y2] at e; omega
        · obtain ⟨x', z1, z2, z3⟩ := get j (by omega) hj
          rw [y2, z2] at e
          have hd := (List.getElem?_inj (l := hs.map (·.1)) (i := i - lim) (j := j - lim) (by rw [List.length_map]; omega) hnd).1 (by rw [List.getElem?_map, List.getElem?_map, y1, z1]; exact congrArg some e)
          omega
    have lowσ : ∀ i, lim ≤ i → i < lim + hs.length → lim ≤ outS lim hs i := fun i h1 h2 => by
      obtain ⟨x, hx⟩ : ∃ x, hs[i - lim]? = some x := ⟨_, List.getElem?_eq_getElem (by omega)⟩
      have := hσ (i - lim) x hx
      rw [show lim + (i - lim) = i by omega] at this
      rw [this]; exact hge x (List.mem_of_getElem? hx)
    refine ⟨r3, fun id hid => if_neg (by omega), VR.und (fun id hid => hr3 id hid) _ _ hv0 ((VR.ren _ _).2 (by rw [hv]; exact v2)), ⟨fun id b hb => ?_, fun id id' b b' x x' hS q q' y y' hxx => ?_, fun id b x hb hl hro hx => ?_, H2.bd, fun g hg => ?_⟩, k2⟩
    · obtain ⟨b1, b2, b3, b4, _⟩ := bnd id b hb
      have := H2.blk _ _ b3
      rw [← b4] at this
      exact (BR.ren.2 this).und (fun i hi => hr3 i hi) b1 b2
    · obtain ⟨b1, b2, b3, b4, _⟩ := bnd id b q
      obtain ⟨c1, c2, c3, c4, _⟩ := bnd id' b' q'
      rw [hr3 id b1] at y
      rw [hr3 id' c1] at y'
      refine inj id id' b1 c1 (H2.inj _ _ _ _ x x' ?_ b3 c3 y y' hxx)
      rcases hS with hS | hS | hS
      · exact .inl (lowσ id hS b1)
      · exact .inr (.inl (lowσ id' hS c1))
      · exact .inr (.inr hS)
    · obtain ⟨b1, b2, b3, b4, _⟩ := bnd id b hb
      rw [hr3 id b1] at hx
      exact H2.low _ b x b3 (lowσ id hl b1) hro hx
    · rw [show r3 g = r g from if_neg (by omega)]
      exact H.glob g hg
/-! calls that look at rows, and make rows, stand for their runs -/
mutual
theorem ren_fix {φ : Nat → Nat} : ∀ {a : AV}, (∀ i ∈ a.ids, φ i = i) → a.ren φ = a
  | .b _, _ | .i _ _, _ | .s _ _, _ | .pn, _ | .sn, _ | .ni, _ | .nf, _ | .mn, _ | .se, _ | .jk, _ => rfl
  | .p id _, k | .sl id _ _ _, k | .so id _ _ _, k | .mp id, k => by rw [AV.ren, k id (by simp [AV.ids])]
  | .ag l, k | .tu l, k => by rw [AV.ren, rens_fix (l := l) (by simpa [AV.ids] using k)]
  | .fa _ a, k => by rw [AV.ren, ren_fix (a := a) (by simpa [AV.ids] using k)]
  | .fn _ a c, k => by
    rw [AV.ren, rens_fix (l := a) (fun i hi => k i (by simp [AV.ids, hi])), rens_fix (l := c) (fun i hi => k i (by simp [AV.ids, hi]))]
  | .pa a, k => rfl
theorem rens_fix {φ : Nat → Nat} : ∀ {l : List AV}, (∀ i ∈ AV.idsL l, φ i = i) → AV.rens φ l = l
  | [], _ => rfl
  | a :: l, k => by
    rw [AV.rens, ren_fix (fun i hi => k i (by simp [AV.idsL, hi])), rens_fix (fun i hi => k i (by simp [AV.idsL, hi]))]
end
mutual
theorem ren_ren {σ τ : Nat → Nat} : ∀ a : AV, (a.ren τ).ren σ = a.ren (fun i => σ (τ i))
  | .b _ | .i _ _ | .s _ _ | .pn | .sn | .ni | .nf | .mn | .se | .jk => rfl
  | .p id _ | .sl id _ _ _ | .so id _ _ _ | .mp id => rfl
  | .ag l | .tu l => by simp only [AV.ren, rens_rens l]
  | .fa _ a => by simp only [AV.ren, ren_ren a]
  | .fn _ a c => by simp only [AV.ren, rens_rens a, rens_rens c]
  | .pa a => rfl
theorem rens_rens {σ τ : Nat → Nat} : ∀ l : List AV, AV.rens σ (AV.rens τ l) = AV.rens (fun i => σ (τ i)) l
  | [] => rfl
  | a :: l => by simp only [AV.rens, ren_ren a, rens_rens l]
end
def dedupN : List Nat → List Nat
  | [] => []
  | a :: l => match memN (dedupN l) a || Nat.blt a 1000 with
    | true => dedupN l
    | false => a :: dedupN l
theorem dedupN_mem {i : Nat} : ∀ {l : List Nat}, i ∈ l → 1000 ≤ i → i ∈ dedupN l
  | a :: l, h, h1 => by
    unfold dedupN
    rcases List.mem_cons.1 h with rfl | h
    · split
      · rename_i hc
        simp only [Bool.or_eq_true] at hc
        rcases hc with hc | hc
        · exact memN_iff.1 hc
        · have := blt_iff.1 hc; omega
      · exact List.mem_cons_self ..
    · have := dedupN_mem h h1
      split
      · exact this
      · exact List.mem_cons_of_mem _ this
theorem dedupN_nodup : ∀ l : List Nat, (dedupN l).Nodup ∧ ∀ i ∈ dedupN l, 1000 ≤ i
  | [] => ⟨List.nodup_nil, fun i h => by cases h⟩
  | a :: l => by
    obtain ⟨h1, h2⟩ := dedupN_nodup l
    unfold dedupN
    split
    · exact ⟨h1, h2⟩
    · rename_i hc
      simp only [Bool.or_eq_false_iff] at hc
      refine ⟨List.nodup_cons.2 ⟨fun hm => (by
        have q := hc.1
        rw [memN_iff.2 hm] at q
        cases q), h1⟩, fun i hi => ?_⟩
      rcases List.mem_cons.1 hi with rfl | hi
      · rcases Nat.lt_or_ge i 1000 with h3 | h3
        · rw [blt_iff.2 h3] at hc; cases hc.2
        · exact h3
      · exact h2 i hi
/-- the place of a number in a row, from n on -/
def placeIn (i : Nat) : List Nat → Nat → Option Nat
  | [], _ => none
  | a :: l, n => match Nat.beq a i with
    | true => some n
    | false => placeIn i l (Nat.succ n)
def tauN (ids : List Nat) (i : Nat) : Nat := match placeIn i ids 1000 with
  | some n => n
  | none => i
noncomputable def backN (ids : List Nat) (nx i : Nat) : Nat := match Nat.blt i 1000 with
  | true => i
  | false => (match getL ids (Nat.sub i 1000) with
    | some j => j
    | none => Nat.add nx (Nat.sub i (Nat.add 1000 ids.length)))
theorem placeIn_ok {i : Nat} : ∀ {l : List Nat} {n : Nat}, i ∈ l → ∃ k, placeIn i l n = some (n + k) ∧ l[k]? = some i
  | a :: l, n, h => by
    unfold placeIn
    cases hb : Nat.beq a i with
    | true => exact ⟨0, rfl, by rw [beq_iff.1 hb]; rfl⟩
    | false =>
      rcases List.mem_cons.1 h with rfl | h
      · rw [beq_iff.2 rfl] at hb; cases hb
      · obtain ⟨k, h1, h2⟩ := placeIn_ok (n := n + 1) h
        exact ⟨k + 1, by show placeIn i l (n + 1) = _; rw [h1]; congr 1; omega, by simpa using h2⟩
theorem placeIn_none {i : Nat} : ∀ {l : List Nat} {n : Nat}, i ∉ l → placeIn i l n = none
  | [], _, _ => rfl
  | a :: l, n, h => by
    unfold placeIn
    cases hb : Nat.beq a i with
    | true => exact absurd (by rw [beq_iff.1 hb]; exact List.mem_cons_self ..) h
    | false => exact placeIn_none fun hm => h (List.mem_cons_of_mem _ hm)
noncomputable def cellsAll (h : T) : List Nat → Option (List (List AV))
  | [] => some []
  | i :: l => match h.get i, cellsAll h l with
    | some (.c cs _ _ _), some css => some (cs :: css)
    | _, _ => none
theorem cellsAll_ok {h : T} : ∀ {ids : List Nat} {css : List (List AV)}, cellsAll h ids = some css → css.length = ids.length ∧ ∀ (k i : Nat) (cs : List AV), ids[k]? = some i → css[k]? = some cs → ∃ fz osz pl, h.get i = some (.c cs fz osz pl)
  | [], css, hk => by
    cases hk
    exact ⟨rfl, fun k i cs h => by simp at h⟩
  | i :: ids, css, hk => by
    unfold cellsAll at hk
    split at hk
    · rename_i cs fz osz pl css' h1 h2
      cases hk
      obtain ⟨q1, q2⟩ := cellsAll_ok h2
      refine ⟨by simp [q1], fun k j ds hj hd => ?_⟩
      cases k with
      | zero =>
        simp only [List.getElem?_cons_zero, Option.some.injEq] at hj hd
        subst hj; subst hd
        exact ⟨fz, osz, pl, h1⟩
      | succ k => exact q2 k j ds (by simpa using hj) (by simpa using hd)
    · cases hk
abbrev NB := List AV × Nat × Option TypeId
def rowsAt : Nat → List (List AV) → List (Nat × List AV)
  | _, [] => []
  | n, c :: l => (n, c) :: rowsAt (n + 1) l
theorem rowsAt_mem {id : Nat} {cs : List AV} : ∀ {css : List (List AV)} {n : Nat}, (id, cs) ∈ rowsAt n css → ∃ i, id = n + i ∧ css[i]? = some cs
  | [], _, h => by cases h
  | c :: css, n, h => by
    rw [rowsAt] at h
    rcases List.mem_cons.1 h with h | h
    · cases h; exact ⟨0, rfl, rfl⟩
    · obtain ⟨i, h1, h2⟩ := rowsAt_mem h
      exact ⟨i + 1, by omega, by simpa using h2⟩
def newsB : Nat → List NB → List (Nat × Blk)
  | _, [] => []
  | n, x :: l => (n, .c x.1 0 x.2.1 x.2.2) :: newsB (n + 1) l
theorem newsB_mem {id : Nat} {b : Blk} : ∀ {l : List NB} {n : Nat}, (id, b) ∈ newsB n l → ∃ i x, id = n + i ∧ l[i]? = some x ∧ b = .c x.1 0 x.2.1 x.2.2
  | [], _, h => by cases h
  | x :: l, n, h => by
    rw [newsB] at h
    rcases List.mem_cons.1 h with h | h
    · cases h; exact ⟨0, x, rfl, rfl, rfl⟩
    · obtain ⟨i, y, h1, h2, h3⟩ := newsB_mem h
      exact ⟨i + 1, y, by omega, by simpa using h2, h3⟩
theorem newsB_get {l : List NB} {base : T} : ∀ {n i : Nat} {x : NB}, l[i]? = some x → (mkH base (newsB n l)).get (n + i) = some (.c x.1 0 x.2.1 x.2.2) := by
  induction l with
  | nil => intro n i x h; simp at h
  | cons y l ih =>
    intro n i x h
    rw [newsB, mkH, Tr.get_set]
    cases i with
    | zero =>
      simp only [List.getElem?_cons_zero, Option.some.injEq] at h
      subst h
      rw [if_pos (show n + 0 = n by omega)]
    | succ i =>
      rw [if_neg (by show ¬ n + (i + 1) = n; omega), show n + (i + 1) = (n + 1) + i by omega]
      exact ih (by simpa using h)
/-- new blocks are put, from nx on -/
noncomputable def setN : List NB → T → Nat → (T → Nat → Out) → Out
  | [], h, nx, k => k h nx
  | x :: l, h, nx, k => Tr.setK h nx (some (.c x.1 0 x.2.1 x.2.2)) fun h => setN l h (Nat.succ nx) k
theorem setN_ok {v : AV} : ∀ {l : List NB} {h : T} {nx : Nat} {k : T → Nat → Out}, setN l h nx k = .ok v → ∃ h', k h' (nx + l.length) = .ok v ∧ ∀ j, h'.get j = if nx ≤ j ∧ j < nx + l.length then (l[j - nx]?).map (fun x => Blk.c x.1 0 x.2.1 x.2.2) else h.get j
  | [], h, nx, k, hk => ⟨h, hk, fun j => by rw [if_neg (fun q => by have := q.1; have := q.2; simp only [List.length_nil] at this; omega)]⟩
  | x :: l, h, nx, k, hk => by
    unfold setN at hk
    obtain ⟨h1, hk, e⟩ := Tr.setK_ok hk
    obtain ⟨h', hk, e'⟩ := setN_ok (l := l) hk
    refine ⟨h', by rw [List.length_cons, show nx + (l.length + 1) = Nat.succ nx + l.length by omega]; exact hk, fun j => ?_⟩
    rw [e', e]
    by_cases h2 : j = nx
    · subst h2
      rw [if_neg (by omega), if_pos rfl, if_pos ⟨Nat.le_refl _, by rw [List.length_cons]; omega⟩, Nat.sub_self]
      rfl
    · by_cases h3 : Nat.succ nx ≤ j ∧ j < Nat.succ nx + l.length
      · rw [if_pos h3, if_pos ⟨by omega, by rw [List.length_cons]; omega⟩, show j - nx = (j - Nat.succ nx) + 1 by omega]
        rfl
      · rw [if_neg h3, if_neg h2, if_neg (fun q => h3 ⟨by omega, by have := q.2; rw [List.length_cons] at this; omega⟩)]
def lensB (css : List (List AV)) : List Bool := css.map fun cs => Nat.ble cs.length 1000000000000000000000
/-- F: from the arguments, their blocks numbered from 1000 on, and the blocks' cells, to the answer, and the blocks that come -/
noncomputable def rowH (lays : List (Nat × List AV)) (F : List AV → List (List AV) → Dec (AV × List NB)) : HT := fun lim args h nx k => match cellsAll h (dedupN (AV.idsL args)) with
  | some css => (match (dedupN (AV.idsL args)).all (fun i => Nat.blt i nx) && (laidB lays h && Nat.ble 1000 nx) with
    | true => (F (AV.rens (tauN (dedupN (AV.idsL args))) args) css).run fun o => allB (lensB css) (setN o.2 h nx fun h n => k (o.1.ren (backN (dedupN (AV.idsL args)) nx)) h n)
    | false => .err 98 1)
  | none => .err 98 2
def RowOK (P : Program) (f : FuncId) (lays : List (Nat × List AV)) (args : List AV) (css : List (List AV)) (v : AV) (news : List NB) : Prop :=
  (∀ c ∈ css, AV.flts c = true) ∧ (∀ x ∈ news, AV.flts x.1 = true) ∧ (∀ x, v ≠ .pa x) ∧ Con P f (1000 + css.length) args (mkH .e (argB (rowsAt 1000 css) ++ layB lays)) (1000 + css.length) v (mkH .e (newsB (1000 + css.length) news ++ (argB (rowsAt 1000 css) ++ layB lays))) (1000 + css.length + news.length)
theorem rowH_ok {f : FuncId} {lays : List (Nat × List AV)} {F : List AV → List (List AV) → Dec (AV × List NB)} (hl : (lays.all fun x => Nat.blt x.1 1000 && AV.flts x.2) = true) (ht : ∀ args css o, (F args css).Is o → RowOK P f lays args css o.1 o.2) : HandOK P f (rowH lays F) := fun lim args h nx k v hT hk => by
  unfold rowH at hk
  split at hk
  case h_2 => cases hk
  rename_i css hcs
  split at hk
  case h_2 => cases hk
  rename_i hc
  simp only [Bool.and_eq_true] at hc
  obtain ⟨c1, c2, c3⟩ := hc
  have c3 := ble_iff.1 c3
  obtain ⟨o, ho, hk⟩ := Dec.run_ok hk
  obtain ⟨hk, hlen⟩ := allB_ok hk
  obtain ⟨h', hk, e⟩ := setN_ok hk
  obtain ⟨t1, t2, t3, C⟩ := ht _ _ _ ho
  generalize hids : dedupN (AV.idsL args) = ids at *
  obtain ⟨l1, l2⟩ := cellsAll_ok hcs
  have hnd := dedupN_nodup (AV.idsL args)
  rw [hids] at hnd
  obtain ⟨nd, ge⟩ := hnd
  have hlt : ∀ i ∈ ids, i < nx := fun i hi => blt_iff.1 (List.all_eq_true.1 c1 i hi)
  have keep : Keeps lim h nx h' (nx + o.2.length) := by
    refine ⟨by omega, fun j hj => by rw [e, if_neg (by have := hT.1; omega)], fun j hj hjo => by rw [e, if_neg (by omega)]; exact hj, fun j b hb hr => ?_⟩
    rw [e] at hb
    split at hb
    · rename_i hj
      cases hx : o.2[j - nx]? with
      | none => rw [hx] at hb; cases hb
      | some x =>
        rw [hx] at hb
        cases hb
        exact absurd hr (by
          show ¬ Nat.blt x.1.length 0 = true
          intro hq; have := blt_iff.1 hq; omega)
    · exact hb
  refine ⟨_, h', _, hk, keep, fun p r w xs H hf hx => ?_⟩
  -- the numbers here, and there
  have bl : ∀ i, i < 1000 → backN ids nx i = i := fun i hi => by unfold backN; rw [blt_iff.2 hi]
  have bm : ∀ j i, ids[j]? = some i → backN ids nx (1000 + j) = i := fun j i hj => by
    unfold backN
    have e1 : Nat.blt (1000 + j) 1000 = false := blt_f (by omega)
    have e2 : Nat.sub (1000 + j) 1000 = j := by show 1000 + j - 1000 = j; omega
    rw [e1, e2, getL_eq, hj]
  have bn : ∀ j, backN ids nx (1000 + ids.length + j) = nx + j := fun j => by
    unfold backN
    have e1 : Nat.blt (1000 + ids.length + j) 1000 = false := blt_f (by omega)
    have e2 : Nat.sub (1000 + ids.length + j) 1000 = ids.length + j := by show 1000 + ids.length + j - 1000 = _; omega
    rw [e1, e2, getL_eq, List.getElem?_eq_none (by omega)]
    show nx + (1000 + ids.length + j - (1000 + ids.length)) = _
    omega
  have cases3 : ∀ i, i < 1000 + ids.length + o.2.length → i < 1000 ∨ (∃ j x, i = 1000 + j ∧ ids[j]? = some x ∧ j < ids.length) ∨ ∃ j, i = 1000 + ids.length + j ∧ j < o.2.length := fun i hi => by
    by_cases h1 : i < 1000
    · exact .inl h1
    · by_cases h2 : i < 1000 + ids.length
      · exact .inr (.inl ⟨i - 1000, _, by omega, List.getElem?_eq_getElem (by omega), by omega⟩)
      · exact .inr (.inr ⟨i - (1000 + ids.length), by omega, by omega⟩)
  have hargs : AV.rens (backN ids nx) (AV.rens (tauN ids) args) = args := by
    rw [rens_rens]
    refine rens_fix fun i hi => ?_
    show backN ids nx (tauN ids i) = i
    by_cases h1 : 1000 ≤ i
    · have hm : i ∈ ids := by rw [← hids]; exact dedupN_mem hi h1
      obtain ⟨k, q1, q2⟩ := placeIn_ok (n := 1000) hm
      unfold tauN
      rw [q1]
      exact bm k i q2
    · have : i ∉ ids := fun hm => by have := ge i hm; omega
      unfold tauN
      rw [placeIn_none this]
      exact bl i (by omega)
  have hTn : ∀ id b, h.get id = some b → id < nx := fun id b hb => by
    rcases Nat.lt_or_ge id nx with h1 | h1
    · exact h1
    · rw [hT.2 id h1] at hb; cases hb
  have hrow : ∀ id b, (mkH .e (argB (rowsAt 1000 css) ++ layB lays)).get id = some b → (∃ j cs i fz osz pl, id = 1000 + j ∧ css[j]? = some cs ∧ ids[j]? = some i ∧ h.get i = some (.c cs fz osz pl) ∧ b = .c cs 1000000000000000000000 0 none) ∨ (id < 1000 ∧ ∃ cs, (id, cs) ∈ lays ∧ b = .c cs cs.length 0 none) := fun id b hb => by
    rcases List.mem_append.1 (mkH_mem hb) with hm | hm
    · obtain ⟨cs, q1, q2⟩ := argB_mem hm
      obtain ⟨j, q3, q4⟩ := rowsAt_mem q1
      have hj : j < css.length := (List.getElem?_eq_some_iff.1 q4).1
      obtain ⟨fz, osz, pl, q5⟩ := l2 j ids[j] cs (List.getElem?_eq_getElem (by omega)) q4
      exact .inl ⟨j, cs, _, fz, osz, pl, q3, q4, List.getElem?_eq_getElem (by omega), q5, q2⟩
    · obtain ⟨cs, q1, q2⟩ := layB_mem hm
      have := List.all_eq_true.1 hl _ q1
      simp only [Bool.and_eq_true] at this
      exact .inr ⟨blt_iff.1 this.1, cs, q1, q2⟩
  rw [l1] at C
  have key := C.emb (σ := backN ids nx) (lim := lim) (NX := nx) (H := h) (H' := h')
    ⟨bl, fun i j hi hj hij => by
      rcases cases3 i hi with h1 | ⟨a, x, rfl, h2, h2'⟩ | ⟨a, rfl, h2⟩ <;> rcases cases3 j hj with h3 | ⟨b, y, rfl, h4, h4'⟩ | ⟨b, rfl, h4⟩
      · rw [bl i h1, bl j h3] at hij; exact hij
      · rw [bl i h1, bm b y h4] at hij; have := ge y (List.mem_of_getElem? h4); omega
      · rw [bl i h1, bn b] at hij; have := hT.1; have := C.lim; have := C.dom; omega
      · rw [bl j h3, bm a x h2] at hij; have := ge x (List.mem_of_getElem? h2); omega
      · rw [bm a x h2, bm b y h4] at hij
        subst hij
        have := (List.getElem?_inj (i := a) (j := b) h2' nd).1 (by rw [h2, h4])
        omega
      · rw [bm a x h2, bn b] at hij; have := hlt x (List.mem_of_getElem? h2); omega
      · rw [bl j h3, bn a] at hij; have := hT.1; omega
      · rw [bn a, bm b y h4] at hij; have := hlt y (List.mem_of_getElem? h4); omega
      · rw [bn a, bn b] at hij; omega, fun i hi => by
      by_cases h1 : i < 1000
      · rw [bl i h1]; omega
      · rw [show i = 1000 + (i - 1000) by omega, bm (i - 1000) _ (List.getElem?_eq_getElem (by omega))]
        exact hlt _ (List.getElem_mem _), fun j h1 h2 => (by
      have q := bn (j - (1000 + ids.length))
      rw [show 1000 + ids.length + (j - (1000 + ids.length)) = j by omega] at q
      exact q), fun i b hi hb => by
      rcases hrow i b hb with ⟨j, cs, i', fz, osz, pl, rfl, q1, q2, _⟩ | ⟨q1, _⟩
      · have := (List.getElem?_eq_some_iff.1 q2).1; omega
      · omega, fun i b hi hb => by
      rcases hrow i b hb with ⟨j, cs, i', fz, osz, pl, rfl, q1, q2, q3, rfl⟩ | ⟨q1, d, q2, rfl⟩
      · rw [bm j i' q2]
        refine ⟨_, q3, fun h => h.elim, fun r w hb => ?_⟩
        have hfl := t1 cs (List.mem_of_getElem? q1)
        simp only [Blk.ren, rens_flt hfl]
        have hle := hlen (Nat.ble cs.length 1000000000000000000000) (List.mem_map.2 ⟨cs, List.mem_of_getElem? q1, rfl⟩)
        have hle := ble_iff.1 hle
        obtain ⟨B, O, K, e1, e2, e3, _, _, _, _, e4⟩ := hb
        exact ⟨B, O, K, e1, e2, e3, fun j h1 h2 => by omega, fun o h1 h2 => by omega, fun h => absurd rfl h, fun ty h => (by cases h), e4⟩
      · have hd := List.all_eq_true.1 hl _ q2
        simp only [Bool.and_eq_true] at hd
        have := List.all_eq_true.1 c2 _ q2
        simp only at this
        split at this
        · rename_i cs2 fz osz pl hg2
          have he := eqVs_ok _ _ this
          subst he
          rw [bl i q1]
          refine ⟨_, hg2, fun h => h.elim, fun r w hb => ?_⟩
          simp only [Blk.ren, rens_flt hd.2]
          obtain ⟨B, O, K, e1, e2, e3, _, _, _, _, e4⟩ := hb
          exact ⟨B, O, K, e1, e2, e3, fun j h1 h2 => by omega, fun o h1 h2 => by omega, fun h => absurd rfl h, fun ty h => (by cases h), e4⟩
        · (cases this), fun i h1 h2 => by omega⟩
    ⟨fun j b hb => by
      rw [e] at hb
      by_cases hj : nx ≤ j ∧ j < nx + o.2.length
      · rw [if_pos hj] at hb
        cases hx : o.2[j - nx]? with
        | none => rw [hx] at hb; cases hb
        | some x =>
          rw [hx] at hb
          cases hb
          refine .inl ⟨1000 + ids.length + (j - nx), .c x.1 0 x.2.1 x.2.2, by omega, ?_, by rw [bn]; omega, ?_⟩
          · rw [← mkH_app]
            have := newsB_get (l := o.2) (base := mkH .e (argB (rowsAt 1000 css) ++ layB lays)) (n := 1000 + ids.length) hx
            exact this
          · simp only [Blk.ren, rens_flt (t2 x (List.mem_of_getElem? hx))]
      · rw [if_neg hj] at hb
        refine .inr ⟨fun i h1 h2 => ?_, hb⟩
        cases hgi : (mkH .e (argB (rowsAt 1000 css) ++ layB lays)).get i with
        | none => rw [hgi] at h2; cases h2
        | some b2 =>
          rcases hrow i b2 hgi with ⟨j', cs, i', fz, osz, pl, rfl, q1, q2, _⟩ | ⟨q1, _⟩
          · have := (List.getElem?_eq_some_iff.1 q2).1; omega
          · omega⟩ hT c3 p r w xs H (by
      have e1 : 1000 + ids.length + o.2.length - (1000 + ids.length) = o.2.length := by omega
      rw [e1]
      exact hf) (by rw [hargs]; exact hx)
  have e1 : 1000 + ids.length + o.2.length - (1000 + ids.length) = o.2.length := by omega
  rw [e1] at key
  exact key
end Clu
end Go.Proofs.Ythghohgjedjpbaa
