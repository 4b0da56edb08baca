/-
  Runs of closed calls by the kernel: worlds and what stands for them.
-/
import Derived.Test.YthghohgjedjpbaaCluD
import Derived.Deep.Upon
namespace Go.Proofs.Ythghohgjedjpbaa
namespace Clu
open Go.RowKit
set_option linter.unusedVariables false

theorem cell_lt {w : World} {a : Addr} {v : Value} (h : w.cell? a = some v) : a.block < w.heap.size := World.block_lt_of_cell? _ _ h
theorem BR.mono {r r' : Rn} {id : Nat} {b : Blk} {w w' : World} (h : BR r id b w) (hr : Le r r') (hb : Below w.heap.size w w') : BR r' id b w' := by
  obtain ⟨B, O, K, h1, h2, h3⟩ := h
  refine ⟨B, O, K, hr _ _ h1, Nat.lt_of_lt_of_le h2 hb.size, ?_⟩
  cases b with
  | c cells fz osz pl =>
    obtain ⟨k1, k2, k3, k4, k5, k6⟩ := h3
    refine ⟨fun j a hj => ?_, fun j h3 h4 => ?_, fun o h3 h4 => ?_, k4, fun ty h3 => ?_, ?_⟩
    · obtain ⟨x, x1, x2⟩ := k1 j a hj
      exact ⟨x, by rw [hb.cell (p := ⟨B, O + j, none⟩) h2]; exact x1, x2.mono hr⟩
    · rw [hb.frozen (p := ⟨B, O + j, none⟩) h2]; exact k2 j h3 h4
    · rw [hb.cell (p := ⟨B, O + o, none⟩) h2, hb.frozen (p := ⟨B, O + o, none⟩) h2]; exact k3 o h3 h4
    · obtain ⟨y1, y2⟩ := k5 ty h3
      have hs : w'.shape? B = w.shape? B := by unfold World.shape?; rw [hb.block B h2]
      refine ⟨fun o => ?_, by rw [hs]; exact y2⟩
      rw [hb.frozen (p := ⟨B, o, none⟩) h2]; exact y1 o
    · unfold World.shape? at k6 ⊢; rw [hb.block B h2]; exact k6
  | it n N pos =>
    simp only at h3 ⊢
    rw [hb.block B h2]; exact h3
  | mp es clock =>
    simp only at h3 ⊢
    rw [hb.block B h2]
    obtain ⟨xs, k1, k2⟩ := h3
    exact ⟨xs, k1, k2.mono hr⟩

def upd (h : Nat → Option Blk) (id : Nat) (b : Option Blk) : Nat → Option Blk := fun j => if j = id then b else h j
def updR (r : Rn) (id : Nat) (x : Nat × Nat × Nat) : Rn := fun j => if j = id then some x else r j
theorem upd_same (h : Nat → Option Blk) (id : Nat) (b : Option Blk) : upd h id b id = b := if_pos rfl
theorem upd_ne (h : Nat → Option Blk) {id j : Nat} (b : Option Blk) (hj : j ≠ id) : upd h id b j = h j := if_neg hj
theorem updR_same (r : Rn) (id : Nat) (x : Nat × Nat × Nat) : updR r id x id = some x := if_pos rfl
theorem updR_ne (r : Rn) {id j : Nat} (x : Nat × Nat × Nat) (hj : j ≠ id) : updR r id x j = r j := if_neg hj
theorem updR_le {r : Rn} {id : Nat} (x : Nat × Nat × Nat) (h : r id = none) : Le r (updR r id x) := fun j y hy => by
  rw [updR_ne]; exact hy
  rintro rfl; rw [h] at hy; cases hy

def Free (n n' : Nat) (r : Rn) : Prop := ∀ id, n ≤ id → id < n' → r id = none
def Ext (n n' : Nat) (r r' : Rn) : Prop := ∀ id, (id < n ∨ n' ≤ id) → r' id = r id
theorem Ext.refl (n n' : Nat) (r : Rn) : Ext n n' r r := fun _ _ => rfl
theorem Ext.le {n n' : Nat} {r r' : Rn} (h : Ext n n' r r') (hf : Free n n' r) : Le r r' := fun id x hx => by
  by_cases h1 : id < n
  · rw [h id (.inl h1)]; exact hx
  · by_cases h2 : n' ≤ id
    · rw [h id (.inr h2)]; exact hx
    · rw [hf id (by omega) (by omega)] at hx; cases hx
theorem Ext.trans {n m n' : Nat} {a b c : Rn} (h : Ext n m a b) (k : Ext m n' b c) (h1 : n ≤ m) (h2 : m ≤ n') : Ext n n' a c := fun id hid => by
  rw [k id (by omega), h id (by omega)]
theorem Free.sub {n m n' m' : Nat} {r : Rn} (h : Free n n' r) (h1 : n ≤ m) (h2 : m' ≤ n') : Free m m' r := fun id a b => h id (by omega) (by omega)
theorem Free.next {n m n' : Nat} {r r' : Rn} (h : Free n n' r) (k : Ext n m r r') (h1 : n ≤ m) : Free m n' r' := fun id a b => by
  rw [k id (.inr a)]; exact h id (by omega) b
theorem Ext.one {r : Rn} {n : Nat} (x : Nat × Nat × Nat) : Ext n (n + 1) r (updR r n x) := fun id h => updR_ne _ _ (by omega)

/-- old blocks as they were; one more block -/
theorem HR.new {p : Nat → Prop} {lim : Nat} {r : Rn} {h : Nat → Option Blk} {w w' : World} (H : HR p lim r h w) {nx : Nat} (hn : r nx = none) (hb : Below w.heap.size w w')
    {b : Blk} {x : Nat × Nat × Nat} (hx : w.heap.size ≤ x.1) (hbr : BR (updR r nx x) nx b w') : HR p lim (updR r nx x) (upd h nx (some b)) w' := by
  have hle := updR_le x hn
  have old : ∀ id b x, h id = some b → r id = some x → x.1 < w.heap.size := fun id b x hb hx => by
    obtain ⟨B', O, K, h1, h2, _⟩ := H.blk id b hb
    rw [hx] at h1; cases h1; exact h2
  have hno : h nx = none := by
    cases hh : h nx with
    | none => rfl
    | some b => obtain ⟨B', O, K, h1, _⟩ := H.blk nx b hh; rw [hn] at h1; cases h1
  refine ⟨fun id b' hb' => ?_, fun id id' b1 b2 y1 y2 hS h1 h2 h3 h4 h5 => ?_, fun id b' y h1 h2 h0 h3 => ?_, fun k hk => Nat.lt_of_lt_of_le (H.bd k hk) hb.size, fun g hg => hle _ _ (H.glob g hg)⟩
  · by_cases hid : id = nx
    · subst hid; rw [upd_same] at hb'; cases hb'; exact hbr
    · rw [upd_ne _ _ hid] at hb'; exact (H.blk id b' hb').mono hle hb
  · by_cases hi : id = nx <;> by_cases hj : id' = nx
    · omega
    · subst hi
      rw [updR_same] at h3; cases h3
      rw [upd_ne _ _ hj] at h2
      rw [updR_ne _ _ hj] at h4
      have := old id' b2 y2 h2 h4
      omega
    · subst hj
      rw [updR_same] at h4; cases h4
      rw [upd_ne _ _ hi] at h1
      rw [updR_ne _ _ hi] at h3
      have := old id b1 y1 h1 h3
      omega
    · rw [upd_ne _ _ hi] at h1
      rw [updR_ne _ _ hi] at h3
      rw [upd_ne _ _ hj] at h2
      rw [updR_ne _ _ hj] at h4
      exact H.inj id id' b1 b2 y1 y2 hS h1 h2 h3 h4 h5
  · by_cases hi : id = nx
    · subst hi; rw [updR_same] at h3; cases h3; intro hp; have := H.bd _ hp; omega
    · rw [upd_ne _ _ hi] at h1
      rw [updR_ne _ _ hi] at h3
      exact H.low id b' y h1 h2 h0 h3
/-- a block is done with -/
theorem HR.kill {p : Nat → Prop} {lim : Nat} {r : Rn} {h : Nat → Option Blk} {w : World} (H : HR p lim r h w) (id : Nat) : HR p lim r (upd h id none) w := by
  have sub : ∀ j b, upd h id none j = some b → h j = some b := fun j b hj => by
    by_cases hi : j = id
    · subst hi; rw [upd_same] at hj; cases hj
    · rwa [upd_ne _ _ hi] at hj
  exact ⟨fun j b hj => H.blk j b (sub j b hj), fun j j' b b' x x' hS h1 h2 h3 h4 h5 => H.inj j j' b b' x x' hS (sub _ _ h1) (sub _ _ h2) h3 h4 h5, fun j b x h1 h2 h0 h3 => H.low j b x (sub _ _ h1) h2 h0 h3, H.bd, H.glob⟩
/-- less is known -/
theorem HR.sub {p q : Nat → Prop} {lim lim' : Nat} {r : Rn} {h h' : Nat → Option Blk} {w : World} (H : HR p lim r h w) (hs : ∀ j b, h' j = some b → h j = some b) (hl : ∀ j b x, h' j = some b → lim' ≤ j → b.ro = false → r j = some x → ¬ q x.1) (hB : ∀ k, q k → k < w.heap.size) (hll : lim ≤ lim') : HR q lim' r h' w :=
  ⟨fun j b hj => H.blk j b (hs j b hj), fun j j' b b' x x' hS h1 h2 h3 h4 h5 => H.inj j j' b b' x x' (hS.le hll) (hs _ _ h1) (hs _ _ h2) h3 h4 h5, hl, hB, H.glob⟩
/-- a draw turns nothing -/
theorem HR.drew {p : Nat → Prop} {lim : Nat} {r : Rn} {h : Nat → Option Blk} {w : World} (H : HR p lim r h w) : HR p lim r h w.drew :=
  ⟨fun id b hb => (H.blk id b hb).mono (Le.refl r) ((Below.refl _ w).drew), H.inj, H.low, H.bd, H.glob⟩

theorem kp_setCells {p : Nat → Prop} {a : World} (b : Nat) (hb : ¬ p b) : ∀ (vs : List Value) (o : Nat) (w : World), Kp p a w → Kp p a (w.setCells b o vs)
  | [], _, _, h => h
  | v :: vs, o, w, h => kp_setCells b hb vs (o + 1) _ (h.setCell (x := ⟨b, o, none⟩) hb v)
theorem size_setCells (b : Nat) (vs : List Value) (o : Nat) (w : World) : w.heap.size ≤ (w.setCells b o vs).heap.size := (kp_setCells (p := fun _ => False) b (fun h => h) vs o w (Kp.refl _ _)).size
theorem heap_setCell_it {w : World} {a : Addr} {u : Value} {k : Nat} {s : ByteArray} {pos : Nat} (h : w.heap[k]? = some (.stringIter s pos)) : (w.setCell a u).heap[k]? = some (.stringIter s pos) := by
  by_cases hk : k = a.block
  · subst hk
    simp [World.setCell, Array.getElem?_modify, h]
  · rw [Below.heap_setCell _ _ _ _ hk]; exact h
theorem heap_setCell_mp {w : World} {a : Addr} {u : Value} {k : Nat} {xs : Array MapEntry} {c : Nat} (h : w.heap[k]? = some (.map xs c)) : (w.setCell a u).heap[k]? = some (.map xs c) := by
  by_cases hk : k = a.block
  · subst hk
    simp [World.setCell, Array.getElem?_modify, h]
  · rw [Below.heap_setCell _ _ _ _ hk]; exact h
theorem heap_setCells_mp (b : Nat) {k : Nat} {xs : Array MapEntry} {c : Nat} : ∀ (vs : List Value) (o : Nat) (w : World), w.heap[k]? = some (.map xs c) → (w.setCells b o vs).heap[k]? = some (.map xs c)
  | [], _, _, h => h
  | v :: vs, o, w, h => heap_setCells_mp b vs (o + 1) _ (heap_setCell_mp h)
theorem heap_setCells_it (b : Nat) {k : Nat} {s : ByteArray} {pos : Nat} : ∀ (vs : List Value) (o : Nat) (w : World), w.heap[k]? = some (.stringIter s pos) → (w.setCells b o vs).heap[k]? = some (.stringIter s pos)
  | [], _, _, h => h
  | v :: vs, o, w, h => heap_setCells_it b vs (o + 1) _ (heap_setCell_it h)

theorem shape_setCell {w : World} {a : Addr} {u : Value} {k : Nat} (h : (w.shape? k).isSome = true) : ((w.setCell a u).shape? k).isSome = true := by
  unfold World.shape? at h ⊢
  by_cases hk : k = a.block
  · subst hk
    simp only [World.setCell, Array.getElem?_modify, if_true]
    cases hh : w.heap[a.block]? with
    | none => simp [hh] at h
    | some o => cases o <;> simp [hh] at h ⊢
  · rw [Below.heap_setCell _ _ _ _ hk]; exact h
theorem shape_setCell_eq (w : World) (a : Addr) (u : Value) (k : Nat) : (w.setCell a u).shape? k = w.shape? k := by
  unfold World.shape?
  by_cases hk : k = a.block
  · subst hk
    simp only [World.setCell, Array.getElem?_modify, if_true]
    cases hh : w.heap[a.block]? with
    | none => rfl
    | some o => cases o <;> simp <;> (try split) <;> simp
  · rw [Below.heap_setCell _ _ _ _ hk]
theorem shape_setCells_eq (b : Nat) {k : Nat} : ∀ (vs : List Value) (o : Nat) (w : World), (w.setCells b o vs).shape? k = w.shape? k
  | [], _, _ => rfl
  | v :: vs, o, w => by rw [World.setCells, shape_setCells_eq b vs, shape_setCell_eq]
theorem shape_setCells (b : Nat) {k : Nat} : ∀ (vs : List Value) (o : Nat) (w : World), (w.shape? k).isSome = true → ((w.setCells b o vs).shape? k).isSome = true
  | [], _, _, h => h
  | v :: vs, o, w, h => shape_setCells b vs (o + 1) _ (shape_setCell h)

/-- cells over others -/
def over (cs : List AV) (o : Nat) (vs : List AV) : List AV := cs.take o ++ vs ++ cs.drop (o + vs.length)
theorem putK_ok {v : AV} {cs : List AV} {o : Nat} {vs : List AV} {k : List AV → Out} (h : putK cs o vs k = .ok v) : (vs = [] ∨ o + vs.length ≤ cs.length) ∧ k (over cs o vs) = .ok v := by
  unfold putK at h
  cases hb : Nat.ble (Nat.add o vs.length) cs.length with
  | false => rw [hb] at h; cases h
  | true => rw [hb] at h; exact ⟨.inr (ble_iff.1 hb), h⟩
theorem over_length {cs : List AV} {o : Nat} {vs : List AV} (h : o + vs.length ≤ cs.length) : (over cs o vs).length = cs.length := by
  simp [over]; omega
theorem over_get {cs : List AV} {o : Nat} {vs : List AV} (h : o + vs.length ≤ cs.length) (j : Nat) : (over cs o vs)[j]? = if o ≤ j ∧ j < o + vs.length then vs[j - o]? else cs[j]? := by
  unfold over
  have hl : (cs.take o).length = o := by simp; omega
  by_cases h1 : j < o
  · rw [if_neg (by omega), List.append_assoc, List.getElem?_append_left (by omega), List.getElem?_take]; simp [h1]
  · by_cases h2 : j < o + vs.length
    · rw [if_pos (by omega), List.append_assoc, List.getElem?_append_right (by omega), hl, List.getElem?_append_left (by omega)]
    · rw [if_neg (by omega), List.getElem?_append_right (by simp; omega), List.getElem?_drop]
      congr 1
      simp; omega

/-- cells are written into a block that stands for something -/
theorem HR.put {p : Nat → Prop} {lim : Nat} {r : Rn} {h : Nat → Option Blk} {w : World} (H : HR p lim r h w) {id : Nat} {cs : List AV} {fz osz : Nat} {pl : Option TypeId} (hid : h id = some (.c cs fz osz pl)) (hl : lim ≤ id)
    {Bk O K : Nat} (hr : r id = some (Bk, O, K)) {o : Nat} {vs : List AV} {xs : List Value} (hvs : VRs r vs xs) (hlen : o + vs.length ≤ cs.length) (hfz : fz ≤ o) :
    (∀ j, j < xs.length → (w.cell? ⟨Bk, O + o + j, none⟩).isSome = true ∧ w.frozen? ⟨Bk, O + o + j, none⟩ = false) ∧
    HR p lim r (upd h id (some (.c (over cs o vs) fz osz pl))) (w.setCells Bk (O + o) xs) ∧ Kp p w (w.setCells Bk (O + o) xs) := by
  obtain ⟨Bk', O', K', h1, hlt, k1, k2, k3, k4, k5, k6⟩ := H.blk id _ hid
  rw [hr] at h1; cases h1
  have hxl := hvs.length
  have hth : ∀ j, j < xs.length → (w.cell? ⟨Bk, O + o + j, none⟩).isSome = true ∧ w.frozen? ⟨Bk, O + o + j, none⟩ = false := fun j hj => by
    have hj2 : o + j < cs.length := by omega
    obtain ⟨x, x1, _⟩ := k1 (o + j) cs[o + j] (List.getElem?_eq_getElem hj2)
    have e : O + o + j = O + (o + j) := by omega
    rw [e, x1, k2 (o + j) (by omega) hj2]
    exact ⟨rfl, rfl⟩
  have hlow := H.low id _ _ hid hl (by
    show Nat.blt cs.length fz = false
    cases h : Nat.blt cs.length fz with
    | false => rfl
    | true => have := blt_iff.1 h; omega) hr
  refine ⟨hth, ?_, kp_setCells Bk hlow xs _ w (Kp.refl _ _)⟩
  have hin := World.cell?_setCells_in Bk xs (O + o) w (fun j hj => (hth j hj).1)
  refine ⟨fun j b hj => ?_, ?_, ?_, fun k hk => Nat.lt_of_lt_of_le (H.bd k hk) (size_setCells _ _ _ _), H.glob⟩
  · by_cases hji : j = id
    · subst hji
      rw [upd_same] at hj; cases hj
      refine ⟨Bk, O, K, hr, Nat.lt_of_lt_of_le hlt (size_setCells _ _ _ _), fun i a ha => ?_, fun i h3 h4 => ?_, fun i h3 h4 => ?_, ?_, fun ty h3 => ?_, shape_setCells _ _ _ _ k6⟩
      · rw [over_get hlen] at ha
        split at ha
        · rename_i hi
          obtain ⟨x, x1, x2⟩ := hvs.get ha
          have hlt' : i - o < xs.length := by omega
          have := hin (i - o) hlt'
          have e : O + o + (i - o) = O + i := by omega
          rw [e] at this
          refine ⟨x, ?_, x2⟩
          rw [this, ← x1, List.getElem?_eq_getElem hlt']
        · rename_i hi
          obtain ⟨x, x1, x2⟩ := k1 i a ha
          refine ⟨x, ?_, x2⟩
          rw [World.cell?_setCells_out _ _ _ _ _ (fun _ _ => by simp; omega)]
          exact x1
      · rw [World.frozen?_setCells]
        rw [over_length hlen] at h4
        exact k2 i h3 h4
      · rw [World.frozen?_setCells]
        rw [over_length hlen] at h3
        obtain ⟨y1, y2⟩ := k3 i h3 h4
        exact ⟨World.isSome_setCells _ _ _ _ _ y1, y2⟩
      · rw [over_length hlen]; exact k4
      · obtain ⟨y1, y2⟩ := k5 ty h3
        refine ⟨fun i => by rw [World.frozen?_setCells]; exact y1 i, ?_⟩
        rw [over_length hlen, shape_setCells_eq]; exact y2
    · rw [upd_ne _ _ hji] at hj
      obtain ⟨B2, O2, K2, m1, m2, m3⟩ := H.blk j b hj
      have hne : B2 ≠ Bk := fun e => hji (H.inj j id b _ _ _ (.inr (.inl hl)) hj hid m1 hr e)
      refine ⟨B2, O2, K2, m1, Nat.lt_of_lt_of_le m2 (size_setCells _ _ _ _), ?_⟩
      have hc : ∀ i, (w.setCells Bk (O + o) xs).cell? ⟨B2, i, none⟩ = w.cell? ⟨B2, i, none⟩ := fun i => World.cell?_setCells_out _ _ _ _ _ (fun e _ => absurd e hne)
      cases b with
      | c cells fz osz pl =>
        simp only [hc, World.frozen?_setCells]
        rw [shape_setCells_eq]
        exact m3
      | it n N pos => exact ⟨m3.1, heap_setCells_it _ _ _ _ m3.2⟩
      | mp es clock => obtain ⟨ys, y1, y2⟩ := m3; exact ⟨ys, heap_setCells_mp _ _ _ _ y1, y2⟩
  · intro j j' b b' x x' hS e1 e2 e3 e4 e5
    have lift : ∀ j b, upd h id (some (.c (over cs o vs) fz osz pl)) j = some b → ∃ b', h j = some b' ∧ (b.pd → b'.pd) := fun j b hj => by
      by_cases hji : j = id
      · subst hji; rw [upd_same] at hj; cases hj; exact ⟨_, hid, fun h => by rcases pl with _ | _ | _ <;> exact h⟩
      · rw [upd_ne _ _ hji] at hj; exact ⟨b, hj, fun h => h⟩
    obtain ⟨b1, e1, q1⟩ := lift _ _ e1
    obtain ⟨b2, e2, q2⟩ := lift _ _ e2
    exact H.inj j j' _ _ x x' (hS.imp (fun h => h) (Or.imp (fun h => h) (And.imp q1 q2))) e1 e2 e3 e4 e5
  · intro j b x e1 e2 e0 e3
    by_cases hji : j = id
    · subst hji; rw [hr] at e3; cases e3; exact hlow
    · rw [upd_ne _ _ hji] at e1; exact H.low j b x e1 e2 e0 e3
/-- what an operation that makes no block may turn of the heap -/
def KeepS (lim : Nat) (h h' : T) : Prop := (∀ j, (j < lim ∨ h.get j = none) → h'.get j = h.get j) ∧ ∀ j b, h'.get j = some b → b.ro = true → h.get j = some b
theorem KeepS.refl (lim : Nat) (h : T) : KeepS lim h h := ⟨fun _ _ => rfl, fun _ _ h _ => h⟩
theorem KeepS.upd {lim : Nat} {h h' : T} {id : Nat} {b b' : Blk} (hb : h.get id = some b) (hl : lim ≤ id) (e : ∀ j, h'.get j = upd h.get id (some b') j) (hro : b'.ro = false) : KeepS lim h h' := by
  refine ⟨fun j hj => ?_, fun j x hx hr => ?_⟩
  · rw [e, upd_ne]
    rintro rfl
    rcases hj with hj | hj
    · omega
    · rw [hb] at hj; cases hj
  · rw [e] at hx
    by_cases hj : j = id
    · subst hj; rw [upd_same] at hx; cases hx; rw [hro] at hr; cases hr
    · rwa [upd_ne _ _ hj] at hx
theorem ro_over {cs vs : List AV} {o fz osz : Nat} {pl : Option TypeId} (h1 : o + vs.length ≤ cs.length) (h2 : fz ≤ o) : (Blk.c (over cs o vs) fz osz pl).ro = false := by
  show Nat.blt (over cs o vs).length fz = false
  rw [over_length h1]
  cases h : Nat.blt cs.length fz with
  | false => rfl
  | true => have := blt_iff.1 h; omega
theorem ro_of {cs : List AV} {fz osz : Nat} {pl : Option TypeId} (h : fz ≤ cs.length) : (Blk.c cs fz osz pl).ro = false := by
  show Nat.blt cs.length fz = false
  cases h' : Nat.blt cs.length fz with
  | false => rfl
  | true => have := blt_iff.1 h'; omega
end Clu
end Go.Proofs.Ythghohgjedjpbaa
