/-
  Runs of closed calls by the kernel: values, blocks, and what they stand for.
-/
import Derived.WalkKit
import Derived.Deep.MidRow
import Derived.Deep.AppendSrc
import Derived.Below
namespace Go.Proofs.Ythghohgjedjpbaa
namespace Clu
open Go.RowKit
set_option linter.unusedVariables false

/-- Values, with numbers for the blocks. -/
inductive AV where
  | b (x : Bool)
  | i (k : IntKind) (n : Int)
  | s (n N : Nat)
  | pn
  | p (id off : Nat)
  | sn
  | sl (id off len cap : Nat)
  | so (id d sz len : Nat)
  | se
  | ag (l : List AV)
  | tu (l : List AV)
  | fa (t : TypeId) (v : AV)
  | ni
  | fn (f : Fn) (first cap : List AV)
  | nf
  | mn
  | mp (id : Nat)
  | pa (v : AV)
  | jk
  deriving Inhabited
/-- whatever it is, but no truth -/
def AV.isJk : AV → Bool
  | .jk => true
  | _ => false

/-- where a block lies: its number, its first cell, how many elements it may grow to -/
abbrev Rn := Nat → Option (Nat × Nat × Nat)

def bytes (l : List Nat) : ByteArray := ⟨(l.map UInt8.ofNat).toArray⟩
/-- n bytes, the lowest first, packed in a number -/
def lst (n N : Nat) : List Nat := (List.range n).map fun i => (N >>> (8 * i)) % 256

mutual
def VR (r : Rn) : AV → Value → Prop
  | .b x, v => v = .bool x
  | .i k n, v => v = .int k n
  | .s n N, v => v = .string (bytes (lst n N))
  | .pn, v => v = .pointer none
  | .p id off, v => ∃ B O K, r id = some (B, O, K) ∧ v = .pointer (some ⟨B, O + off, none⟩)
  | .sn, v => v = .slice none 0 0
  | .sl id off len cap, v => ∃ B O K, r id = some (B, O, K) ∧ v = .slice (some ⟨B, O + off, none⟩) len cap
  | .so id d sz len, v => ∃ B O K, r id = some (B, O, K) ∧ v = .slice (some ⟨B, O + d * sz, none⟩) len (K - d)
  | .se, v => ∃ a c, v = .slice (some a) 0 c
  | .ag l, v => ∃ xs : List Value, v = .agg xs.toArray ∧ VRs r l xs
  | .tu l, v => ∃ xs : List Value, v = .tuple xs.toArray ∧ VRs r l xs
  | .fa t a, v => ∃ x, v = .iface t x ∧ VR r a x
  | .ni, v => v = .nilIface
  | .fn f a c, v => ∃ xs ys : List Value, v = .func f xs.toArray ys.toArray ∧ VRs r a xs ∧ VRs r c ys
  | .nf, v => v = .nilFunc
  | .mn, v => v = .map none
  | .mp id, v => ∃ B O K, r id = some (B, O, K) ∧ v = .map (some B)
  | .pa _, _ => False
  | .jk, v => ∀ b, v ≠ .bool b
def VRs (r : Rn) : List AV → List Value → Prop
  | [], xs => xs = []
  | a :: l, xs => ∃ x ys, xs = x :: ys ∧ VR r a x ∧ VRs r l ys
end

/-- r' knows all that r knows -/
def Le (r r' : Rn) : Prop := ∀ id x, r id = some x → r' id = some x
theorem Le.refl (r : Rn) : Le r r := fun _ _ h => h
theorem Le.trans {a b c : Rn} (h : Le a b) (k : Le b c) : Le a c := fun id x hx => k id x (h id x hx)

mutual
theorem VR.mono {r r' : Rn} (h : Le r r') : ∀ (a : AV) (v : Value), VR r a v → VR r' a v
  | .b _, _, k => k
  | .i _ _, _, k => k
  | .s _ _, _, k => k
  | .pn, _, k => k
  | .p _ _, _, ⟨B, O, K, k1, k2⟩ => ⟨B, O, K, h _ _ k1, k2⟩
  | .sn, _, k => k
  | .sl _ _ _ _, _, ⟨B, O, K, k1, k2⟩ => ⟨B, O, K, h _ _ k1, k2⟩
  | .so _ _ _ _, _, ⟨B, O, K, k1, k2⟩ => ⟨B, O, K, h _ _ k1, k2⟩
  | .se, _, k => k
  | .ag l, _, ⟨xs, k1, k2⟩ => ⟨xs, k1, VRs.mono h l xs k2⟩
  | .tu l, _, ⟨xs, k1, k2⟩ => ⟨xs, k1, VRs.mono h l xs k2⟩
  | .fa _ a, _, ⟨x, k1, k2⟩ => ⟨x, k1, VR.mono h a x k2⟩
  | .ni, _, k => k
  | .fn _ a c, _, ⟨xs, ys, k1, k2, k3⟩ => ⟨xs, ys, k1, VRs.mono h a xs k2, VRs.mono h c ys k3⟩
  | .nf, _, k => k
  | .mn, _, k => k
  | .mp _, _, ⟨B, O, K, k1, k2⟩ => ⟨B, O, K, h _ _ k1, k2⟩
  | .pa _, _, k => k.elim
  | .jk, _, k => k
theorem VRs.mono {r r' : Rn} (h : Le r r') : ∀ (l : List AV) (xs : List Value), VRs r l xs → VRs r' l xs
  | [], _, k => k
  | a :: l, _, ⟨x, ys, k1, k2, k3⟩ => ⟨x, ys, k1, VR.mono h a x k2, VRs.mono h l ys k3⟩
end

theorem VRs.length {r : Rn} : ∀ {l : List AV} {xs : List Value}, VRs r l xs → xs.length = l.length
  | [], _, h => by cases h; rfl
  | _ :: _, _, ⟨_, _, h1, _, h3⟩ => by rw [h1]; simp [VRs.length h3]
theorem VRs.get {r : Rn} : ∀ {l : List AV} {xs : List Value}, VRs r l xs → ∀ {j : Nat} {a : AV}, l[j]? = some a → ∃ x, xs[j]? = some x ∧ VR r a x
  | _ :: _, _, ⟨x, ys, h1, h2, h3⟩, 0, a, h => by cases h; exact ⟨x, by rw [h1]; rfl, h2⟩
  | _ :: _, _, ⟨x, ys, h1, h2, h3⟩, j + 1, a, h => by
    obtain ⟨y, k1, k2⟩ := VRs.get h3 (j := j) (by simpa using h)
    exact ⟨y, by rw [h1]; simpa using k1, k2⟩
theorem VRs.set {r : Rn} : ∀ {l : List AV} {xs : List Value}, VRs r l xs → ∀ (j : Nat) {a : AV} {x : Value}, VR r a x → VRs r (l.set j a) (xs.set j x)
  | [], _, h, _, _, _, _ => by cases h; rfl
  | _ :: _, _, ⟨x, ys, h1, h2, h3⟩, 0, a, y, h => by subst h1; exact ⟨y, ys, rfl, h, h3⟩
  | _ :: _, _, ⟨x, ys, h1, h2, h3⟩, j + 1, a, y, h => by subst h1; exact ⟨x, ys.set j y, rfl, h2, VRs.set h3 j h⟩
theorem VRs.append {r : Rn} : ∀ {l m : List AV} {xs ys : List Value}, VRs r l xs → VRs r m ys → VRs r (l ++ m) (xs ++ ys)
  | [], _, _, _, h, k => by cases h; simpa using k
  | _ :: _, _, _, ys, ⟨x, zs, h1, h2, h3⟩, k => by subst h1; exact ⟨x, zs ++ ys, rfl, h2, VRs.append h3 k⟩
theorem VRs.take {r : Rn} : ∀ (n : Nat) {l : List AV} {xs : List Value}, VRs r l xs → VRs r (l.take n) (xs.take n)
  | 0, _, _, _ => by simp [VRs]
  | n + 1, [], _, h => by cases h; simp [VRs]
  | n + 1, _ :: _, _, ⟨x, zs, h1, h2, h3⟩ => by subst h1; exact ⟨x, zs.take n, rfl, h2, VRs.take n h3⟩
theorem VRs.drop {r : Rn} : ∀ (n : Nat) {l : List AV} {xs : List Value}, VRs r l xs → VRs r (l.drop n) (xs.drop n)
  | 0, _, _, h => by simpa using h
  | n + 1, [], _, h => by cases h; simp [VRs]
  | n + 1, _ :: _, _, ⟨x, zs, h1, h2, h3⟩ => by subst h1; simpa using VRs.drop n h3
theorem VRs.replicate {r : Rn} {a : AV} {x : Value} (h : VR r a x) : ∀ (n : Nat), VRs r (List.replicate n a) (List.replicate n x)
  | 0 => rfl
  | n + 1 => ⟨x, List.replicate n x, rfl, h, VRs.replicate h n⟩
theorem VRs.of_get {r : Rn} : ∀ {l : List AV} {xs : List Value}, xs.length = l.length → (∀ (j : Nat) (a : AV), l[j]? = some a → ∃ x, xs[j]? = some x ∧ VR r a x) → VRs r l xs
  | [], xs, h, _ => by simpa [VRs] using h
  | a :: l, [], h, _ => by simp at h
  | a :: l, x :: xs, h, k => by
    obtain ⟨y, k1, k2⟩ := k 0 a rfl
    simp at k1
    subst k1
    exact ⟨x, xs, rfl, k2, VRs.of_get (by simpa using h) (fun j a hj => by simpa using k (j + 1) a (by simpa using hj))⟩

/-- a value of one cell -/
def AV.one : AV → Bool
  | .ag _ | .tu _ | .jk => false
  | _ => true
theorem VR.one {r : Rn} {a : AV} {x : Value} (h : VR r a x) (ha : a.one = true) : x.oneCell' = true := by
  cases a <;> simp only [VR, AV.one, Bool.false_eq_true] at h ha
  all_goals first
    | (subst h; rfl)
    | (obtain ⟨B, O, K, _, rfl⟩ := h; rfl)
    | (obtain ⟨_, _, rfl⟩ := h; rfl)
    | (obtain ⟨x, rfl, _⟩ := h; rfl)
    | (obtain ⟨xs, ys, rfl, _⟩ := h; rfl)
def AV.cells : AV → List AV
  | .ag l => l
  | v => [v]
theorem VR.cells {r : Rn} {a : AV} {x : Value} (h : VR r a x) (hj : a.isJk = false) : VRs r a.cells x.cells.toList := by
  cases a <;> simp only [AV.cells]
  case ag l => obtain ⟨xs, rfl, k⟩ := h; simpa [Value.cells] using k
  case pa v => exact h.elim
  case jk => cases hj
  all_goals
    refine ⟨x, [], ?_, h, rfl⟩
    simp only [VR] at h
    first
    | (subst h; rfl)
    | (obtain ⟨B, O, K, _, rfl⟩ := h; rfl)
    | (obtain ⟨_, _, rfl⟩ := h; rfl)
    | (obtain ⟨x, rfl, _⟩ := h; rfl)
    | (obtain ⟨xs, ys, rfl, _⟩ := h; rfl)
    | (obtain ⟨xs, rfl, _⟩ := h; rfl)

/-- entries of a map -/
def ERs (r : Rn) : List (AV × AV × Nat) → List MapEntry → Prop
  | [], xs => xs = []
  | (k, v, n) :: l, xs => ∃ x ys, xs = x :: ys ∧ VR r k x.key ∧ VR r v x.val ∧ n = x.born ∧ ERs r l ys
theorem ERs.mono {r r' : Rn} (h : Le r r') : ∀ {l : List (AV × AV × Nat)} {xs : List MapEntry}, ERs r l xs → ERs r' l xs
  | [], _, k => k
  | (_, _, _) :: _, _, ⟨x, ys, h1, h2, h3, h4, h5⟩ => ⟨x, ys, h1, h2.mono h, h3.mono h, h4, ERs.mono h h5⟩

/-- Blocks. 'c': cells; the first 'fz' of them may be frozen; 'osz' is not 0 where it may have grown by append: an element's size; 'pl': nothing is frozen, and this is the type that was asked for. 'it': what ranges over a string. -/
inductive Blk where
  | c (cells : List AV) (fz osz : Nat) (pl : Option TypeId)
  | it (n N : Nat) (pos : Nat)
  | mp (es : List (AV × AV × Nat)) (clock : Nat)

def BR (r : Rn) (id : Nat) (b : Blk) (w : World) : Prop :=
  ∃ B O K, r id = some (B, O, K) ∧ B < w.heap.size ∧
    match b with
    | .c cells fz osz pl =>
      (∀ (j : Nat) (a : AV), cells[j]? = some a → ∃ x, w.cell? ⟨B, O + j, none⟩ = some x ∧ VR r a x) ∧
      (∀ j, fz ≤ j → j < cells.length → w.frozen? ⟨B, O + j, none⟩ = false) ∧
      (∀ o, cells.length ≤ o → o < osz * K → (w.cell? ⟨B, O + o, none⟩).isSome = true ∧ w.frozen? ⟨B, O + o, none⟩ = false) ∧
      (osz ≠ 0 → cells.length ≤ osz * K) ∧
      (∀ ty, pl = some ty → (∀ o, w.frozen? ⟨B, o, none⟩ = false) ∧ (ty = 0 ∨ (O = 0 ∧ w.shape? B = some (ty, cells.length)) ∨ (osz ≠ 0 ∧ O = 0 ∧ ∃ n, osz * K ≤ n ∧ w.shape? B = some (ty, n)))) ∧
      (w.shape? B).isSome = true
    | .it n N pos => O = 0 ∧ w.heap[B]? = some (.stringIter (bytes (lst n N)) pos)
    | .mp es clock => ∃ xs : List MapEntry, w.heap[B]? = some (.map xs.toArray clock) ∧ ERs r es xs

/-- a block that may not be written: told by a number of frozen cells beyond its end -/
def Blk.ro : Blk → Bool
  | .c cs fz _ _ => Nat.blt cs.length fz
  | _ => false
def Blk.pd : Blk → Prop
  | .c _ _ _ (some (_ + 1)) => True
  | _ => False
/-- two blocks of which one may be written, or that may be asked whether they are the same -/
def Sep (lim id id' : Nat) (b b' : Blk) : Prop := lim ≤ id ∨ lim ≤ id' ∨ (b.pd ∧ b'.pd)
theorem Sep.symm {lim id id' : Nat} {b b' : Blk} (h : Sep lim id id' b b') : Sep lim id' id b' b := by
  rcases h with h | h | ⟨h, k⟩
  · exact .inr (.inl h)
  · exact .inl h
  · exact .inr (.inr ⟨k, h⟩)
theorem Sep.le {lim lim' id id' : Nat} {b b' : Blk} (h : Sep lim' id id' b b') (hl : lim ≤ lim') : Sep lim id id' b b' := by
  rcases h with h | h | h
  · exact .inl (Nat.le_trans hl h)
  · exact .inr (.inl (Nat.le_trans hl h))
  · exact .inr (.inr h)
/-- what stands for a heap; 'p': blocks that must stay as they are -/
structure HR (p : Nat → Prop) (lim : Nat) (r : Rn) (h : Nat → Option Blk) (w : World) : Prop where
  blk : ∀ id b, h id = some b → BR r id b w
  inj : ∀ id id' b b' x x', Sep lim id id' b b' → h id = some b → h id' = some b' → r id = some x → r id' = some x' → x.1 = x'.1 → id = id'
  low : ∀ id b x, h id = some b → lim ≤ id → b.ro = false → r id = some x → ¬ p x.1
  bd : ∀ k, p k → k < w.heap.size
  glob : ∀ g, g < 1000 → r g = some (g, 0, 0)
/-- the streams, and the blocks of p, are as they were; no block has gone -/
structure Kp (p : Nat → Prop) (w w' : World) : Prop where
  os : w'.os = w.os
  tape : w'.tape = w.tape
  output : w'.output = w.output
  size : w.heap.size ≤ w'.heap.size
  block : ∀ k, p k → w'.heap[k]? = w.heap[k]?
theorem Kp.refl (p : Nat → Prop) (w : World) : Kp p w w := ⟨rfl, rfl, rfl, Nat.le_refl _, fun _ _ => rfl⟩
theorem Kp.trans {p : Nat → Prop} {a b c : World} (h : Kp p a b) (k : Kp p b c) : Kp p a c :=
  ⟨k.os.trans h.os, k.tape.trans h.tape, k.output.trans h.output, Nat.le_trans h.size k.size, fun i hi => (k.block i hi).trans (h.block i hi)⟩
theorem Kp.mono {p q : Nat → Prop} {a b : World} (h : Kp p a b) (hq : ∀ k, q k → p k) : Kp q a b := ⟨h.os, h.tape, h.output, h.size, fun k hk => h.block k (hq k hk)⟩
theorem Kp.of_below {p : Nat → Prop} {B : Nat} {a b : World} (h : Below B a b) (hp : ∀ k, p k → k < B) : Kp p a b := ⟨h.os, h.tape, h.output, h.size, fun k hk => h.block k (hp k hk)⟩
theorem Kp.below {B : Nat} {a b : World} (h : Kp (· < B) a b) : Below B a b := ⟨h.os, h.tape, h.output, h.size, h.block⟩
theorem Kp.setCell {p : Nat → Prop} {a w : World} (h : Kp p a w) {x : Addr} (hx : ¬ p x.block) (u : Value) : Kp p a (w.setCell x u) :=
  h.trans ⟨rfl, rfl, rfl, by simp [World.setCell], fun k hk => Below.heap_setCell _ _ _ _ (fun e => hx (e ▸ hk))⟩
end Clu
end Go.Proofs.Ythghohgjedjpbaa
