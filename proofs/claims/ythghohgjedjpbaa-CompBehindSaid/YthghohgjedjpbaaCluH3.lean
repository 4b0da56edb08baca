/-
  Runs at whatever arguments: loops that append to a row.
-/
import Derived.Test.YthghohgjedjpbaaCluH2
import Derived.Test.YthghohgjedjpbaaCluT1
namespace Go.Proofs.Ythghohgjedjpbaa
namespace Clu
open Go.RowKit
set_option linter.unusedVariables false
variable {P : Program}
/-- rounds behind which blocks got other names, as rounds by which blocks have come -/
theorem RunR.toE {n nt lim nx n1 top : Nat} {c : Code} {fr : Fr} {h h1 : T} {e : Ex} {l : List (Nat × Option AV)} (he : e.fine = true) (R : RunR P n c nt lim nx fr h nx e (mkFr nt l) h1 n1 top) (hn : nx ≤ n1) (ht : n1 ≤ top) (hu : undF n1 l) (hh : ∀ id b, h1.get id = some b → id < n1 ∧ b.und n1 = true) (hk : Keeps lim h nx h1 top) : RunE P n c nt lim fr h nx e (mkFr nt l) h1 top :=
  RunE.of he ⟨hk, fun p r w act D H hf hfr N hN => R p r w act D H hf hfr N fun act1 w1 r1 e1 x1 f1 H1 k1 => by
    let r2 : Rn := fun id => if id < n1 then r1 id else r id
    have hr2 : ∀ id, id < n1 → r2 id = r1 id := fun id hid => if_pos hid
    have h1000 : ∀ g, g < 1000 → r2 g = some (g, 0, 0) := fun g hg => by
      show (if g < n1 then r1 g else r g) = _
      split
      · exact H1.glob g hg
      · exact H.glob g hg
    refine hN act1 w1 ⟨r2, fun id hid => ?_, FR.und hr2 hu f1, ⟨fun id b hb => (H1.blk id b hb).und hr2 (hh id b hb).1 (hh id b hb).2, fun id id' b b' x x' hs q q' y y' => ?_, fun id b x hb hlim hro hx => ?_, H1.bd, h1000⟩, k1⟩
    · show (if id < n1 then r1 id else r id) = r id
      rcases hid with hid | hid
      · rw [if_pos (by omega)]; exact e1 id hid
      · rw [if_neg (by omega)]
    · rw [hr2 id (hh id b q).1] at y
      rw [hr2 id' (hh id' b' q').1] at y'
      exact H1.inj id id' b b' x x' hs q q' y y'
    · rw [hr2 id (hh id b hb).1] at hx
      exact H1.low id b x hb hlim hro hx⟩
theorem LoopR.toQ {b : Code} {fuel nt lim nx nx1 ec top : Nat} {bl0 bl1 : List (Nat × Blk)} {ts0 bs ts : List Nat} {vs0 vs : List AV} (K : LoopR P b fuel nt lim nx bl0 nx ec ts0 vs0 bs ts vs bl1 nx1 top) (hn : nx ≤ nx1) (ht : nx1 ≤ top) (hu : AV.unds nx1 vs = true) (hh : ∀ id b, (mkH .e bl1).get id = some b → id < nx1 ∧ b.und nx1 = true) (hk : Keeps lim (mkH .e bl0) nx (mkH .e bl1) top) : LoopQ P b fuel nt lim bl0 nx ec ts0 vs0 bs ts vs bl1 top := fun os0 h0 => by
  obtain ⟨os, h1, R⟩ := K os0 h0
  exact ⟨os, h1, RunR.toE (exOf_fine ec) R hn ht (undF_std hu h1) hh hk⟩
/-- a block that has come stands behind the others -/
theorem keep_new {gl : List (Nat × Blk)} {lim m top : Nat} {c : List AV} {osz : Nat} {pl : Option TypeId} (B : ∀ x ∈ gl, x.1 < m) (hl : lim ≤ m) (h : m + 1 ≤ top) : Keeps lim (mkH .e ([] ++ gl)) m (mkH .e ([(m, .c c 0 osz pl)] ++ gl)) top := by
  have e : ∀ j, (mkH .e ([(m, .c c 0 osz pl)] ++ gl)).get j = if j = m then some (.c c 0 osz pl) else (mkH .e gl).get j := fun j => by
    rw [show mkH .e ([(m, .c c 0 osz pl)] ++ gl) = (mkH .e gl).set m (some (.c c 0 osz pl)) from rfl, Tr.get_set]
  refine ⟨by omega, fun j hj => by rw [e, if_neg (by omega)]; rfl, fun j hj hjo => by rw [e, if_neg (by omega)]; exact hj, fun j b hb hr => ?_⟩
  rw [e] at hb
  split at hb
  · cases hb
    have hr : Nat.blt c.length 0 = true := hr
    have hr := blt_iff.1 hr
    omega
  · exact hb
theorem hh_new {gl : List (Nat × Blk)} {m : Nat} {b0 : Blk} (B : ∀ x ∈ gl, x.1 < m ∧ x.2.und (m + 1) = true) (hu : b0.und (m + 1) = true) (id : Nat) (b : Blk) (hb : (mkH .e ([(m, b0)] ++ gl)).get id = some b) : id < m + 1 ∧ b.und (m + 1) = true := by
  rcases List.mem_cons.1 (mkH_mem hb) with h | h
  · cases h; exact ⟨Nat.lt_succ_self _, hu⟩
  · have := B _ h; exact ⟨by have := this.1; simp only at this; omega, this.2⟩
def upBy (m d : Nat) : Nat → Nat := fun id => if id = m then m + d else id
theorem ren_by {gl : List (Nat × Blk)} {m d : Nat} {b0 : Blk} (B : ∀ x ∈ gl, x.1 < m ∧ x.2.und m = true) (h0 : b0.ren (upBy m d) = b0) (hu0 : b0.und (m + 1) = true) : ∀ id b, (mkH .e ([(m, b0)] ++ gl)).get id = some b → (mkH .e ([(m + d, b0)] ++ gl)).get (upBy m d id) = some (b.ren (upBy m d)) ∧ id < m + 1 ∧ b.und (m + 1) = true := fun id b hb => by
  rw [show mkH .e ([(m, b0)] ++ gl) = (mkH .e gl).set m (some b0) from rfl, Tr.get_set] at hb
  rw [show mkH .e ([(m + d, b0)] ++ gl) = (mkH .e gl).set (m + d) (some b0) from rfl, Tr.get_set]
  by_cases h : id = m
  · rw [if_pos h] at hb
    cases hb
    subst h
    unfold upBy
    rw [if_pos rfl, if_pos rfl]
    exact ⟨congrArg some h0.symm, by omega, hu0⟩
  · rw [if_neg h] at hb
    obtain ⟨q1, q3⟩ := B _ (gl_mem hb)
    simp only at q1 q3
    have q2 : b.ren (upBy m d) = b := Blk.ren_id q3 fun i hi => if_neg (by omega)
    rw [show upBy m d id = id from if_neg h, if_neg (by omega), q2]
    exact ⟨hb, by omega, Blk.und_up q3 (by omega)⟩
/-- a round behind which one row is there, by another name: it gets its name -/
theorem LoopR.app {b : Code} {n fuel nt lim m nx nx1 nx2 ec top : Nat} (d : Nat) {gl bl0 bl3 : List (Nat × Blk)} {c1 : List AV} {osz : Nat} {pl : Option TypeId} {ts0 bs ts : List Nat} {vs0 vs1 vs2 vs : List AV} (hf : n ≤ fuel)
    (H : ∀ os0 : Nat → Option AV, (∀ t, flatB (os0 t) = true) → ∃ os : Nat → Option AV, (∀ t, flatB (os t) = true) ∧ RunE P n b nt lim (mkFr nt (std ts0 vs0 bs os0)) (mkH .e (bl0 ++ gl)) nx (exOf 0) (mkFr nt (std ts0 vs1 bs os)) (mkH .e ([(m + d, .c c1 0 osz pl)] ++ gl)) nx1)
    (ht : nx1 ≤ top) (hm : m ≤ nx) (h1000 : 1000 ≤ m) (hl : lim ≤ m) (hv : AV.rens (upBy m d) vs2 = vs1) (hu : AV.unds (m + 1) vs2 = true) (B : ∀ x ∈ gl, x.1 < m ∧ x.2.und m = true) (hc : AV.flts c1 = true)
    (K : LoopR P b fuel nt lim m ([(m, .c c1 0 osz pl)] ++ gl) (m + 1) ec ts0 vs2 bs ts vs bl3 nx2 top) : LoopR P b (fuel + 1) nt lim m (bl0 ++ gl) nx ec ts0 vs0 bs ts vs bl3 nx2 top := by
  refine LoopR.more (upBy m d) hf H ht hm h1000 (by omega) (fun id hid => if_neg (by omega)) (fun i j hi hj hij => ?_) (fun i h1 h2 => ?_) hv hu (ren_by B ?_ (flts_unds hc)) K
  · unfold upBy at hij
    split at hij <;> split at hij <;> omega
  · unfold upBy; split <;> omega
  · simp only [Blk.ren, rens_flt hc]
/-- all rounds, behind which a row has come -/
theorem LoopR.come {b : Code} {fuel nt lim m ec top : Nat} {gl : List (Nat × Blk)} {c : List AV} {osz : Nat} {pl : Option TypeId} {ts0 bs ts : List Nat} {vs0 vs : List AV} (K : LoopR P b fuel nt lim m ([] ++ gl) m ec ts0 vs0 bs ts vs ([(m, .c c 0 osz pl)] ++ gl) (m + 1) top) (ht : m + 1 ≤ top) (hl : lim ≤ m) (B : ∀ x ∈ gl, x.1 < m ∧ x.2.und m = true) (hc : AV.flts c = true) (hu : AV.unds (m + 1) vs = true) : LoopQ P b fuel nt lim ([] ++ gl) m ec ts0 vs0 bs ts vs ([(m, .c c 0 osz pl)] ++ gl) top :=
  K.toQ (by omega) ht hu (hh_new (fun x hx => ⟨(B x hx).1, Blk.und_up (B x hx).2 (by omega)⟩) (flts_unds hc)) (keep_new (fun x hx => (B x hx).1) hl ht)
/-- all rounds, behind which no row has come -/
theorem LoopR.gone {b : Code} {fuel nt lim m nx1 ec top : Nat} {gl bl1 : List (Nat × Blk)} {ts0 bs ts : List Nat} {vs0 vs : List AV} (K : LoopR P b fuel nt lim m ([] ++ gl) m ec ts0 vs0 bs ts vs (bl1 ++ gl) nx1 top) (hlow : ∀ x ∈ bl1, m ≤ x.1) (ht : m ≤ top) (B : ∀ x ∈ gl, x.1 < m ∧ x.2.und m = true) (hu : AV.unds m vs = true) : LoopQ P b fuel nt lim ([] ++ gl) m ec ts0 vs0 bs ts vs ([] ++ gl) top :=
  K.to (Nat.le_refl _) hu (fun id b hb => by
    have hm := B _ (gl_mem hb)
    simp only at hm
    refine ⟨?_, hm.1, hm.2⟩
    rw [← mkH_app]
    rcases mkH_get (base := mkH .e gl) (id := id) (l := bl1) with ⟨b2, p1, _⟩ | ⟨_, p2⟩
    · have := hlow _ p1; simp only at this; omega
    · rw [p2]; exact hb) ⟨ht, fun j hj => rfl, fun j hj _ => hj, fun j b hb _ => hb⟩
/-- rows of texts -/
def S1 (L : List (List Nat)) : List AV := L.map fun x => .s x.length (pk x)
theorem S1_length (L : List (List Nat)) : (S1 L).length = L.length := List.length_map ..
theorem S1_flts (L : List (List Nat)) : AV.flts (S1 L) = true := flts_all.2 fun a ha => by
  obtain ⟨x, _, rfl⟩ := List.mem_map.1 ha; rfl
theorem S1_app (L : List (List Nat)) (x : List Nat) : S1 L ++ [.s x.length (pk x)] = S1 (L ++ [x]) := by unfold S1; rw [List.map_append]; rfl
theorem S1_get {L : List (List Nat)} {i : Nat} (h : i < L.length) : getL (S1 L) i = some (.s (L.getD i []).length (pk (L.getD i []))) := by
  rw [getL_some, List.getD_eq_getElem?_getD, List.getElem?_eq_getElem h]
  unfold S1
  rw [List.getElem?_map, List.getElem?_eq_getElem h]
  rfl
theorem S1_isS {L : List (List Nat)} {i : Nat} (h : i < L.length) : isS (getL (S1 L) i) = true := by rw [S1_get h]; rfl
theorem S1_sN {L : List (List Nat)} {i : Nat} (h : i < L.length) : sN (getL (S1 L) i) = (L.getD i []).length := by rw [S1_get h]; rfl
theorem S1_sNN {L : List (List Nat)} {i : Nat} (h : i < L.length) : sNN (getL (S1 L) i) = pk (L.getD i []) := by rw [S1_get h]; rfl
theorem S1_drop (L : List (List Nat)) (k : Nat) : (S1 L).drop k = S1 (L.drop k) := by unfold S1; rw [List.map_drop]
theorem S1_take (L : List (List Nat)) (k : Nat) : (S1 L).take k = S1 (L.take k) := by unfold S1; rw [List.map_take]
end Clu
end Go.Proofs.Ythghohgjedjpbaa
