/-
  Runs of closed calls by the kernel: the run itself.
-/
import Derived.Test.YthghohgjedjpbaaCluA
namespace Go.Proofs.Ythghohgjedjpbaa
namespace Clu
open Go.RowKit
set_option linter.unusedVariables false
noncomputable section

inductive Out where
  | ok (v : AV)
  | err (c d : Nat)

abbrev KO := AV → Out

/-! numbers and lists, forced; by recursors: the kernel runs these -/
def fN (n : Nat) (k : Nat → Out) : Out := k n
def fI (n : Int) (k : Int → Out) : Out := k n
def fB (x : Bool) (k : Bool → Out) : Out := k x
/-- a number that must be natural -/
def natK (n : Int) (e : Out) (k : Nat → Out) : Out := Int.rec (motive := fun _ => Out) k (fun _ => e) n
theorem natK_ok {n : Int} {e : Out} {k : Nat → Out} {v : AV} (he : e ≠ .ok v) (h : natK n e k = .ok v) : ∃ a : Nat, n = (a : Int) ∧ k a = .ok v := by
  cases n with
  | ofNat a => exact ⟨a, rfl, h⟩
  | negSucc a => exact absurd h he
def getL {α : Type} (l : List α) : Nat → Option α := List.rec (motive := fun _ => Nat → Option α) (fun _ => none) (fun a _ ih n => Nat.rec (motive := fun _ => Option α) (some a) (fun m _ => ih m) n) l
theorem getL_nil {α : Type} (n : Nat) : getL ([] : List α) n = none := rfl
theorem getL_zero {α : Type} (a : α) (l : List α) : getL (a :: l) 0 = some a := rfl
theorem getL_succ {α : Type} (a : α) (l : List α) (n : Nat) : getL (a :: l) (n + 1) = getL l n := rfl
def setK {α : Type} (l : List α) : Nat → α → (List α → Out) → Out := List.rec (fun _ _ k => k []) (fun a l ih n v k => Nat.casesOn n (k (v :: l)) fun m => ih m v fun r => k (a :: r)) l
theorem setK_nil {α : Type} (n : Nat) (v : α) (k : List α → Out) : setK [] n v k = k [] := rfl
theorem setK_zero {α : Type} (a : α) (l : List α) (v : α) (k : List α → Out) : setK (a :: l) 0 v k = k (v :: l) := rfl
theorem setK_succ {α : Type} (a : α) (l : List α) (n : Nat) (v : α) (k : List α → Out) : setK (a :: l) (n + 1) v k = setK l n v fun r => k (a :: r) := rfl
def appK {α : Type} (l m : List α) (k : List α → Out) : Out := k (l ++ m)
theorem appK_nil {α : Type} (m : List α) (k : List α → Out) : appK [] m k = k m := rfl
theorem appK_cons {α : Type} (a : α) (l m : List α) (k : List α → Out) : appK (a :: l) m k = appK l m fun r => k (a :: r) := rfl
/-- the first n; there must be as many -/
def takeK {α : Type} (l : List α) (n : Nat) (k : List α → Out) : Out := Bool.rec (motive := fun _ => Out) (.err 1 0) (k (l.take n)) (Nat.ble n l.length)
theorem takeK_zero {α : Type} (l : List α) (k : List α → Out) : takeK l 0 k = k [] := by cases l <;> rfl
theorem takeK_nil {α : Type} (n : Nat) (k : List α → Out) : takeK ([] : List α) (n + 1) k = .err 1 0 := rfl
theorem takeK_succ {α : Type} (a : α) (l : List α) (n : Nat) (k : List α → Out) : takeK (a :: l) (n + 1) k = takeK l n fun r => k (a :: r) := rfl
def dropK {α : Type} (l : List α) (n : Nat) (k : List α → Out) : Out := Bool.rec (motive := fun _ => Out) (.err 2 0) (k (l.drop n)) (Nat.ble n l.length)
theorem dropK_zero {α : Type} (l : List α) (k : List α → Out) : dropK l 0 k = k l := by cases l <;> rfl
theorem dropK_nil {α : Type} (n : Nat) (k : List α → Out) : dropK ([] : List α) (n + 1) k = .err 2 0 := rfl
theorem dropK_succ {α : Type} (a : α) (l : List α) (n : Nat) (k : List α → Out) : dropK (a :: l) (n + 1) k = dropK l n k := rfl
def lenK {α : Type} (l : List α) (n : Nat) (k : Nat → Out) : Out := k (Nat.add l.length n)
theorem lenK_nil {α : Type} (n : Nat) (k : Nat → Out) : lenK ([] : List α) n k = k n := by unfold lenK; congr 1; exact Nat.zero_add n
theorem lenK_cons {α : Type} (a : α) (l : List α) (n : Nat) (k : Nat → Out) : lenK (a :: l) n k = lenK l (n + 1) k := by unfold lenK; congr 1; show l.length + 1 + n = l.length + (n + 1); omega
def repK {α : Type} (n : Nat) (a : α) : List α → (List α → Out) → Out := Nat.rec (fun acc k => k acc) (fun _ ih acc k => ih (a :: acc) k) n
theorem repK_zero {α : Type} (a : α) (acc : List α) (k : List α → Out) : repK 0 a acc k = k acc := rfl
theorem repK_succ {α : Type} (n : Nat) (a : α) (acc : List α) (k : List α → Out) : repK (n + 1) a acc k = repK n a (a :: acc) k := rfl
/-- bytes, packed -/
def strL (l : List UInt8) : (Nat → Nat → Out) → Out := List.rec (motive := fun _ => (Nat → Nat → Out) → Out) (fun k => k 0 0) (fun c _ ih k => ih fun n N => fN (Nat.succ n) fun n => fN (Nat.add c.toNat (Nat.mul 256 N)) fun N => k n N) l
theorem strL_nil (k : Nat → Nat → Out) : strL [] k = k 0 0 := rfl
theorem strL_cons (c : UInt8) (l : List UInt8) (k : Nat → Nat → Out) : strL (c :: l) k = strL l fun n N => fN (Nat.succ n) fun n => fN (Nat.add c.toNat (Nat.mul 256 N)) fun N => k n N := rfl
def byteN (N i : Nat) : Nat := Nat.mod (Nat.shiftRight N (Nat.mul 8 i)) 256
/-- the first n bytes, as values -/
def u8L (N n : Nat) (acc : List AV) (k : List AV → Out) : Out := k ((List.range n).map (fun i => AV.i .u8 (.ofNat (byteN N i))) ++ acc)
theorem u8L_zero (N : Nat) (acc : List AV) (k : List AV → Out) : u8L N 0 acc k = k acc := rfl
theorem u8L_succ (N n : Nat) (acc : List AV) (k : List AV → Out) : u8L N (n + 1) acc k = fN (byteN N n) fun c => u8L N n (.i .u8 (.ofNat c) :: acc) k := by unfold u8L fN; rw [List.range_succ, List.map_append, List.append_assoc]; rfl
/-- bytes' values as numbers -/
def isU8 (v : AV) : Bool := match v with
  | .i .u8 n => (match n with
    | .ofNat _ => true
    | .negSucc _ => false)
  | _ => false
def u8N (v : AV) : Nat := match v with
  | .i .u8 n => (match n with
    | .ofNat c => c
    | .negSucc _ => 0)
  | _ => 0
/-- bytes, packed -/
def pk : List Nat → Nat
  | [] => 0
  | c :: l => Nat.add (Nat.mod c 256) (Nat.mul 256 (pk l))
def ofU8 (cs : List AV) (k : Nat → Nat → Out) : Out := Bool.rec (motive := fun _ => Out) (.err 3 0) (k cs.length (pk (cs.map u8N))) (cs.all isU8)
theorem ofU8_nil (k : Nat → Nat → Out) : ofU8 [] k = k 0 0 := rfl
theorem ofU8_cons (n : Int) (l : List AV) (k : Nat → Nat → Out) : ofU8 (.i .u8 n :: l) k = match n with
    | .ofNat c => ofU8 l fun n N => fN (Nat.succ n) fun n => fN (Nat.add (Nat.mod c 256) (Nat.mul 256 N)) fun N => k n N
    | .negSucc _ => .err 3 0 := by
  cases n with
  | ofNat c => rfl
  | negSucc c => rfl
def allOne : List AV → Bool
  | [] => true
  | a :: l => match a.one with
    | true => allOne l
    | false => false
def maskN (n N : Nat) : Nat := Nat.mod N (Nat.pow 2 (Nat.mul 8 n))
def eqNs (n N m M : Nat) : Bool := Bool.rec (motive := fun _ => Bool) false (Nat.beq (maskN n N) (maskN m M)) (Nat.beq n m)
def ltNs : List Nat → List Nat → Bool
  | _, [] => false
  | [], _ :: _ => true
  | a :: l, b :: m => match Nat.blt (Nat.mod a 256) (Nat.mod b 256) with
    | true => true
    | false => match Nat.beq (Nat.mod a 256) (Nat.mod b 256) with
      | true => ltNs l m
      | false => false

/-! tries: the heap, the slots -/
inductive Tr (α : Type) where
  | e
  | n (v : Option α) (l r : Tr α)
abbrev T := Tr Blk
abbrev Fr := Tr AV
def Tr.get {α : Type} (t : Tr α) : Nat → Option α := Tr.rec (motive := fun _ => Nat → Option α) (fun _ => none) (fun v _ _ gl gr k => Nat.rec (motive := fun _ => Option α) v (fun k _ => Nat.rec (motive := fun _ => Option α) (gl (Nat.div k 2)) (fun _ _ => gr (Nat.div k 2)) (Nat.mod k 2)) k) t
def Tr.mkK {α : Type} (f : Nat) : Nat → Option α → (Tr α → Out) → Out := Nat.rec (motive := fun _ => Nat → Option α → (Tr α → Out) → Out) (fun _ _ _ => .err 4 0) (fun _ ih k b c => Nat.rec (motive := fun _ => Out) (c (.n b .e .e)) (fun k _ => Nat.rec (motive := fun _ => Out)
      (ih (Nat.div k 2) b fun t => c (.n none t .e))
      (fun _ _ => ih (Nat.div k 2) b fun t => c (.n none .e t)) (Nat.mod k 2)) k) f
def Tr.setK {α : Type} (t : Tr α) : Nat → Option α → (Tr α → Out) → Out := Tr.rec (motive := fun _ => Nat → Option α → (Tr α → Out) → Out) (fun k => Tr.mkK (Nat.succ k) k) (fun v l r sl sr k b c => Nat.rec (motive := fun _ => Out) (c (.n b l r)) (fun k _ => Nat.rec (motive := fun _ => Out)
      (sl (Nat.div k 2) b fun t => c (.n v t r))
      (fun _ _ => sr (Nat.div k 2) b fun t => c (.n v l t)) (Nat.mod k 2)) k) t
section
variable {α : Type}
theorem Tr.get_e (k : Nat) : (Tr.e : Tr α).get k = none := rfl
theorem Tr.get_0 (v : Option α) (l r : Tr α) : (Tr.n v l r).get 0 = v := rfl
theorem Tr.get_s (v : Option α) (l r : Tr α) (k : Nat) : (Tr.n v l r).get (k + 1) = if k % 2 = 0 then l.get (k / 2) else r.get (k / 2) := by
  show @Nat.rec (fun _ => Option α) (l.get (k / 2)) (fun _ _ => r.get (k / 2)) (k % 2) = _
  rcases Nat.mod_two_eq_zero_or_one k with h | h <;> rw [h] <;> rfl
theorem Tr.mkK_ok {v : AV} : ∀ (f : Nat) {k : Nat} {b : Option α} {c : Tr α → Out}, Tr.mkK f k b c = .ok v → ∃ t' : Tr α, c t' = .ok v ∧ ∀ j, t'.get j = if j = k then b else none
  | 0, k, b, c, h => by cases h
  | f + 1, 0, b, c, h => ⟨.n b .e .e, h, fun j => by
      cases j with
      | zero => rfl
      | succ j => rw [Tr.get_s]; simp [Tr.get_e]⟩
  | f + 1, k + 1, b, c, h => by
    have h' : @Nat.rec (fun _ => Out) (Tr.mkK f (k / 2) b fun t => c (.n none t .e)) (fun _ _ => Tr.mkK f (k / 2) b fun t => c (.n none .e t)) (k % 2) = .ok v := h
    rcases Nat.mod_two_eq_zero_or_one k with hm | hm <;> rw [hm] at h'
    · obtain ⟨t', h1, h2⟩ := Tr.mkK_ok f h'
      refine ⟨_, h1, fun j => ?_⟩
      cases j with
      | zero => rfl
      | succ j =>
        rw [Tr.get_s, h2]
        simp only [Tr.get_e]
        by_cases hj : j = k
        · subst hj; simp [hm]
        · simp [hj]; intro h3 h4; omega
    · obtain ⟨t', h1, h2⟩ := Tr.mkK_ok f h'
      refine ⟨_, h1, fun j => ?_⟩
      cases j with
      | zero => rfl
      | succ j =>
        rw [Tr.get_s, h2]
        simp only [Tr.get_e]
        by_cases hj : j = k
        · subst hj; simp [hm]
        · simp [hj]; intro h3 h4; omega
theorem Tr.setK_ok {v : AV} : ∀ {t : Tr α} {k : Nat} {b : Option α} {c : Tr α → Out}, Tr.setK t k b c = .ok v → ∃ t' : Tr α, c t' = .ok v ∧ ∀ j, t'.get j = if j = k then b else t.get j
  | .e, k, b, c, h => Tr.mkK_ok (k + 1) h
  | .n u l r, 0, b, c, h => ⟨.n b l r, h, fun j => by
      cases j with
      | zero => rfl
      | succ j => rw [Tr.get_s, Tr.get_s]; simp⟩
  | .n u l r, k + 1, b, c, h => by
    have h' : @Nat.rec (fun _ => Out) (Tr.setK l (k / 2) b fun t => c (.n u t r)) (fun _ _ => Tr.setK r (k / 2) b fun t => c (.n u l t)) (k % 2) = .ok v := h
    rcases Nat.mod_two_eq_zero_or_one k with hm | hm <;> rw [hm] at h'
    · obtain ⟨t', h1, h2⟩ := Tr.setK_ok h'
      refine ⟨_, h1, fun j => ?_⟩
      cases j with
      | zero => rfl
      | succ j =>
        rw [Tr.get_s, Tr.get_s, h2]
        by_cases hj : j = k
        · subst hj; simp [hm]
        · simp [hj]
          by_cases h3 : j % 2 = 0
          · simp [h3]; intro h4; omega
          · simp [h3]
    · obtain ⟨t', h1, h2⟩ := Tr.setK_ok h'
      refine ⟨_, h1, fun j => ?_⟩
      cases j with
      | zero => rfl
      | succ j =>
        rw [Tr.get_s, Tr.get_s, h2]
        by_cases hj : j = k
        · subst hj; simp [hm]
        · simp [hj]
          by_cases h3 : j % 2 = 0
          · simp [h3]
          · simp [h3]; intro h4; omega
end

/-! operands -/
mutual
def cstK : Nat → Value → KO → Out
  | 0, _, _ => .err 5 0
  | f + 1, v, k => match v with
    | .bool b => fB b fun b => k (.b b)
    | .int kd n => fI n fun n => k (.i kd n)
    | .string s => strL s.data.toList fun n N => k (.s n N)
    | .pointer none => k .pn
    | .slice none l c => match l, c with
      | 0, 0 => k .sn
      | _, _ => .err 5 1
    | .nilIface => k .ni
    | .nilFunc => k .nf
    | .map none => k .mn
    | .agg cs => cstsK f cs.toList fun l => k (.ag l)
    | .tuple cs => cstsK f cs.toList fun l => k (.tu l)
    | .iface t v => fN t fun t => cstK f v fun a => k (.fa t a)
    | _ => .err 5 2
def cstsK : Nat → List Value → (List AV → Out) → Out
  | 0, _, _ => .err 5 0
  | _ + 1, [], k => k []
  | f + 1, v :: l, k => cstK f v fun a => cstsK f l fun m => k (a :: m)
end
def tmpK (t : Nat) (fr : Fr) (k : KO) : Out := Option.rec (motive := fun _ => Out) (k (.tu [])) k (fr.get t)
def cB (b : Bool) (k : KO) : Out := fB b fun b => k (.b b)
def cI (kd : IntKind) (n : Int) (k : KO) : Out := fI n fun n => k (.i kd n)
def cS (s : ByteArray) (k : KO) : Out := strL s.data.toList fun n N => k (.s n N)
def cF (v : Value) : KO → Out := match v with
  | .bool b => cB b
  | .int kd n => cI kd n
  | .string s => cS s
  | v => cstK 1000 v
def cK (v : Value) (_fr : Fr) (k : KO) : Out := cF v k
def gK (g : Nat) (_fr : Fr) (k : KO) : Out := Bool.rec (motive := fun _ => Out) (.err 5 3) (fN g fun g => k (.p g 0)) (Nat.blt g 1000)
def fuK (f : Nat) (_fr : Fr) (k : KO) : Out := fN f fun f => k (.fn (.func f) [] [])
def opdF (x : Operand) : Fr → KO → Out := Operand.rec (motive := fun _ => Fr → KO → Out) tmpK cK gK fuK x
def opdK (fr : Fr) (x : Operand) (k : KO) : Out := opdF x fr k
def opdsK (fr : Fr) (l : List Operand) : (List AV → Out) → Out := List.rec (motive := fun _ => (List AV → Out) → Out) (fun k => k []) (fun x _ ih k => opdK fr x fun v => ih fun m => k (v :: m)) l
theorem opdsK_nil (fr : Fr) (k : List AV → Out) : opdsK fr [] k = k [] := rfl
theorem opdsK_cons (fr : Fr) (x : Operand) (l : List Operand) (k : List AV → Out) : opdsK fr (x :: l) k = opdK fr x fun v => opdsK fr l fun m => k (v :: m) := rfl

section
variable (P : Program)

def zeroK (t : TypeId) (k : KO) : Out := match P.info? t with
  | some i => match i.zero with
    | some z => cstK 100000 z fun a => (match a.isJk with
      | true => .err 6 9
      | false => k a)
    | none => .err 6 0
  | none => .err 6 1
def sizeK (t : TypeId) (k : Nat → Out) : Out := match P.info? t with
  | some i => fN i.size k
  | none => .err 6 2
def aggB (t : TypeId) : Option Bool := match P.underlying t with
  | some (.struct _) => some true
  | some (.array _ _) => some true
  | some _ => some false
  | none => none
/-- cells put over others -/
def splice (cs : List AV) (o : Nat) (vs : List AV) : List AV := cs.take o ++ vs ++ cs.drop (o + vs.length)
def putK (cs : List AV) (o : Nat) (vs : List AV) (k : List AV → Out) : Out := Bool.rec (motive := fun _ => Out) (.err 7 0) (k (splice cs o vs)) (Nat.ble (Nat.add o vs.length) cs.length)

def partK (t : TypeId) (cs : List AV) (off : Nat) (k : KO) : Out := match aggB P t with
  | some true => sizeK P t fun n => dropK cs off fun m => takeK m n fun l => k (.ag l)
  | some false => match getL cs off with
    | some v => k v
    | none => .err 8 0
  | none => .err 8 1

/-! equality -/
mutual
def eqK (h : T) : Nat → TypeId → AV → AV → (Bool → Out) → Out
  | 0, _, _, _, _ => .err 9 0
  | d + 1, t, x, y, k => match P.underlying t with
    | some .bool => match x, y with
      | .b a, .b b => fB (a == b) k
      | _, _ => .err 9 1
    | some (.int _) => match x, y with
      | .i ka a, .i kb b => (match decide (ka = kb) with | true => fB (a == b) k | false => .err 9 2)
      | _, _ => .err 9 3
    | some .string => match x, y with
      | .s a x, .s b y => fB (eqNs a x b y) k
      | _, _ => .err 9 4
    | some (.pointer e) => match x, y with
      | .pn, .pn => k true
      | .pn, .p _ _ => k false
      | .p _ _, .pn => k false
      | .p i a, .p j b => match h.get i, h.get j with
        | some (.c _ _ _ (some (_ + 1))), some (.c _ _ _ (some (_ + 1))) => sizeK P e fun n => match n with
          | 0 => .err 9 5
          | _ + 1 => match Nat.beq i j with
            | true => fB (Nat.beq a b) k
            | false => k false
        | some (.c c1 _ _ (some _)), some (.c c2 _ _ (some _)) => sizeK P e fun n => match n with
          | 0 => .err 9 5
          | _ + 1 => match Nat.beq i j with
            | true => fB (Nat.beq a b) k
            | false => match c1[a]?, c2[b]? with
              | some (.s n N), some (.s m M) => (match eqNs n N m M with | true => .err 9 60 | false => k false)
              | _, _ => .err 9 6
        | _, _ => .err 9 6
      | _, _ => .err 9 7
    | some (.interface _) => match x, y with
      | .ni, .ni => k true
      | .ni, .fa _ _ => k false
      | .fa _ _, .ni => k false
      | .fa ta a, .fa tb b => match Nat.beq ta tb with
        | false => k false
        | true => match P.info? ta with
          | some i => (match i.comparable with | true => eqK h d ta a b k | false => .err 9 8)
          | none => .err 9 9
      | _, _ => .err 9 10
    | some (.struct fs) => match x, y with
      | .ag xs, .ag ys => (match P.stoodInHeld t with | false => eqFsK h d fs.toList xs ys k | true => .err 9 11)
      | _, _ => .err 9 12
    | some (.slice _) => match x, y with
      | .sn, .sn => k true
      | .sn, .sl _ _ _ _ => k false
      | .sn, .so _ _ _ _ => k false
      | .sl _ _ _ _, .sn => k false
      | .so _ _ _ _, .sn => k false
      | .sn, .se => k false
      | .se, .sn => k false
      | _, _ => .err 9 14
    | some (.map _ _) => match x, y with
      | .mn, .mn => k true
      | .mn, .mp _ => k false
      | .mp _, .mn => k false
      | _, _ => .err 9 15
    | some (.func _ _ _) => match x, y with
      | .nf, .nf => k true
      | .nf, .fn _ _ _ => k false
      | .fn _ _ _, .nf => k false
      | _, _ => .err 9 16
    | some (.array n e) => match x, y with
      | .ag xs, .ag ys => sizeK P e fun sz => eqAsK h d e sz 0 n xs ys k
      | _, _ => .err 9 18
    | _ => .err 9 17
def eqAsK (h : T) : Nat → TypeId → Nat → Nat → Nat → List AV → List AV → (Bool → Out) → Out
  | 0, _, _, _, _, _, _, _ => .err 9 0
  | _ + 1, _, _, _, 0, _, _, k => k true
  | d + 1, e, sz, i, n + 1, xs, ys, k => fN (Nat.mul i sz) fun o => partK P e xs o fun a => partK P e ys o fun b => eqK h d e a b fun r => fN (Nat.succ i) fun i => eqAsK h d e sz i n xs ys fun q => k (r && q)
def eqFsK (h : T) : Nat → List Field → List AV → List AV → (Bool → Out) → Out
  | 0, _, _, _, _ => .err 9 0
  | _ + 1, [], _, _, k => k true
  | d + 1, f :: fs, xs, ys, k => match decide (f.name ≠ "_") with
    | true => partK P f.type xs f.offset fun a => partK P f.type ys f.offset fun b => eqK h d f.type a b fun r => eqFsK h d fs xs ys fun q => k (r && q)
    | false => eqFsK h d fs xs ys k
end

/-- fast: the kernel runs these -/
def ge0 (n : Int) : Bool := Int.casesOn n (fun _ => true) (fun _ => false)
def modN (n : Int) (m : Nat) : Nat := Int.casesOn n (fun a => Nat.mod a m) (fun a => Nat.sub (Nat.sub m 1) (Nat.mod a m))
def sgnI (r half full : Nat) : Int := Bool.casesOn (Nat.ble half r) (Int.ofNat r) (Int.negSucc (Nat.sub (Nat.sub full r) 1))
def wrapF (kd : IntKind) (n : Int) : Int := IntKind.casesOn kd
  (sgnI (modN n 256) 128 256) (sgnI (modN n 65536) 32768 65536) (sgnI (modN n 4294967296) 2147483648 4294967296) (sgnI (modN n 18446744073709551616) 9223372036854775808 18446744073709551616)
  (Int.ofNat (modN n 256)) (Int.ofNat (modN n 65536)) (Int.ofNat (modN n 4294967296)) (Int.ofNat (modN n 18446744073709551616))
def signB (kd : IntKind) : Bool := IntKind.casesOn kd true true true true false false false false
def halfN (kd : IntKind) : Nat := IntKind.casesOn kd 128 32768 2147483648 9223372036854775808 256 65536 4294967296 18446744073709551616
def inR (kd : IntKind) (n : Int) : Bool := Int.casesOn n (fun a => Nat.blt a (halfN kd)) (fun a => Nat.blt a (halfN kd))
/-- signed numbers must fit -/
def wrapK (kd : IntKind) (n : Int) (k : KO) : Out := Bool.rec (motive := fun _ => Out) (fI (wrapF kd n) fun n => k (.i kd n)) (Bool.rec (motive := fun _ => Out) (.err 10 20) (k (.i kd n)) (inR kd n)) (signB kd)
def bitsN (kd : IntKind) : Nat := IntKind.casesOn kd 8 16 32 64 8 16 32 64
def fullN (kd : IntKind) : Nat := IntKind.casesOn kd 256 65536 4294967296 18446744073709551616 256 65536 4294967296 18446744073709551616
def iAdd (a b : Int) : Int := a + b
def iSub (a b : Int) : Int := a - b
def iMul (a b : Int) : Int := a * b
def iEq (a b : Int) : Bool := Int.casesOn a (fun a => Int.casesOn b (fun b => Nat.beq a b) fun _ => false) (fun a => Int.casesOn b (fun _ => false) fun b => Nat.beq a b)
def iLt (a b : Int) : Bool := Int.casesOn a (fun a => Int.casesOn b (fun b => Nat.blt a b) fun _ => false) (fun a => Int.casesOn b (fun _ => true) fun b => Nat.blt b a)
abbrev I2 := IntKind → Int → Int → KO → Out
def nAdd : I2 := fun kd a b k => wrapK kd (a + b) k
def nSub : I2 := fun kd a b k => wrapK kd (a - b) k
def nMul : I2 := fun kd a b k => wrapK kd (a * b) k
def nQuo : I2 := fun kd a b k => match iEq b 0 with | true => .err 10 1 | false => wrapK kd (a.tdiv b) k
def nRem : I2 := fun kd a b k => match iEq b 0 with | true => .err 10 2 | false => fI (a.tmod b) fun n => k (.i kd n)
def nAnd : I2 := fun kd x y k => wrapK kd (Int.ofNat (Nat.land (modN x (fullN kd)) (modN y (fullN kd)))) k
def nOr : I2 := fun kd x y k => wrapK kd (Int.ofNat (Nat.lor (modN x (fullN kd)) (modN y (fullN kd)))) k
def nXor : I2 := fun kd x y k => wrapK kd (Int.ofNat (Nat.xor (modN x (fullN kd)) (modN y (fullN kd)))) k
def nAndNot : I2 := fun kd x y k => wrapK kd (Int.ofNat (Nat.land (modN x (fullN kd)) (Nat.sub (Nat.sub (fullN kd) 1) (modN y (fullN kd))))) k
def nEql : I2 := fun _ a b k => fB (iEq a b) fun r => k (.b r)
def nNeq : I2 := fun _ a b k => fB (iEq a b) fun r => k (.b (!r))
def nLss : I2 := fun _ a b k => fB (iLt a b) fun r => k (.b r)
def nLeq : I2 := fun _ a b k => fB (iLt b a) fun r => k (.b (!r))
def nGtr : I2 := fun _ a b k => fB (iLt b a) fun r => k (.b r)
def nGeq : I2 := fun _ a b k => fB (iLt a b) fun r => k (.b (!r))
def nNo : I2 := fun _ _ _ _ => .err 10 0
def intF (op : BinOp) : I2 := BinOp.rec (motive := fun _ => I2) nAdd nSub nMul nQuo nRem nAnd nOr nXor nNo nNo nAndNot nEql nNeq nLss nLeq nGtr nGeq op
def minN (a b : Nat) : Nat := Bool.casesOn (Nat.ble a b) b a
def natOf (n : Int) : Nat := Int.casesOn n (fun a => a) (fun _ => 0)
def shiftK (op : BinOp) (kd : IntKind) (x y : Int) (k : KO) : Out := match ge0 y with
  | false => .err 10 3
  | true => match op with
    | .shl => wrapK kd (x * Int.ofNat (Nat.pow 2 (minN (natOf y) (bitsN kd)))) k
    | .shr => fI (x.fdiv (Int.ofNat (Nat.pow 2 (minN (natOf y) (bitsN kd))))) fun n => k (.i kd n)
    | _ => .err 10 4
abbrev S2 := Nat → Nat → Nat → Nat → KO → Out
def catN (n N M : Nat) : Nat := Nat.lor (maskN n N) (Nat.shiftLeft M (Nat.mul 8 n))
def sAdd : S2 := fun n N m M k => Bool.rec (motive := fun _ => Out) (.err 10 5) (fN (Nat.add n m) fun l => fN (catN n N M) fun L => k (.s l L)) (Nat.blt (Nat.add n m) 9223372036854775808)
def ltS (n N m M : Nat) : Bool := ltNs (lst n N) (lst m M)
def sEql : S2 := fun a x b y k => fB (eqNs a x b y) fun r => k (.b r)
def sNeq : S2 := fun a x b y k => fB (!eqNs a x b y) fun r => k (.b r)
def sLss : S2 := fun a x b y k => fB (ltS a x b y) fun r => k (.b r)
def sLeq : S2 := fun a x b y k => fB (ltS a x b y || eqNs a x b y) fun r => k (.b r)
def sGtr : S2 := fun a x b y k => fB (!(ltS a x b y || eqNs a x b y)) fun r => k (.b r)
def sGeq : S2 := fun a x b y k => fB (!ltS a x b y) fun r => k (.b r)
def sNo : S2 := fun _ _ _ _ _ => .err 10 6
def strOpF (op : BinOp) : S2 := BinOp.rec (motive := fun _ => S2) sAdd sNo sNo sNo sNo sNo sNo sNo sNo sNo sNo sEql sNeq sLss sLeq sGtr sGeq op
/-- what the guard of an equation lets by -/
def eqFree (t : TypeId) (cx cy : Bool) (x y : AV) : Bool := match x, y with
  | .ni, .ni => cx || cy
  | .ag _, .ag _ => !P.eqGuardType P.depth t
  | .jk, _ => false
  | _, .jk => false
  | _, _ => true
def isC : Operand → Bool
  | .const _ => true
  | _ => false
def eqOpK (h : T) (op : BinOp) (t : TypeId) (cx cy : Bool) (x y : AV) (k : KO) : Out := match op with
  | .eql => (match eqFree P t cx cy x y with | true => eqK P h 10000 t x y fun r => k (.b r) | false => .err 10 8)
  | .neq => (match eqFree P t cx cy x y with | true => eqK P h 10000 t x y fun r => fB (!r) fun r => k (.b r) | false => .err 10 9)
  | _ => .err 10 10
abbrev IK2 := IntKind → Int → IntKind → Int → KO → Out
def iiShl : IK2 := fun ka a _ b k => shiftK .shl ka a b k
def iiShr : IK2 := fun ka a _ b k => shiftK .shr ka a b k
def sameKind (a b : IntKind) : Bool := Nat.beq (IntKind.rec (motive := fun _ => Nat) 0 1 2 3 4 5 6 7 a) (IntKind.rec (motive := fun _ => Nat) 0 1 2 3 4 5 6 7 b)
def iiOf (f : I2) : IK2 := fun ka a kb b k => Bool.rec (motive := fun _ => Out) (.err 10 7) (f ka a b k) (sameKind ka kb)
def iiF (op : BinOp) : IK2 := BinOp.rec (motive := fun _ => IK2) (iiOf nAdd) (iiOf nSub) (iiOf nMul) (iiOf nQuo) (iiOf nRem) (iiOf nAnd) (iiOf nOr) (iiOf nXor) iiShl iiShr (iiOf nAndNot) (iiOf nEql) (iiOf nNeq) (iiOf nLss) (iiOf nLeq) (iiOf nGtr) (iiOf nGeq) op
abbrev BK := Program → T → BinOp → TypeId → Bool → Bool → AV → KO → Out
def binI (ka : IntKind) (a : Int) : BK := fun P h op t cx cy y k => match y with
  | .i kb b => iiF op ka a kb b k
  | y => eqOpK P h op t cx cy (.i ka a) y k
def binS (n N : Nat) : BK := fun P h op t cx cy y k => match y with
  | .s m M => strOpF op n N m M k
  | y => eqOpK P h op t cx cy (.s n N) y k
def binX (x : AV) : BK := fun P h op t cx cy y k => eqOpK P h op t cx cy x y k
def binF (x : AV) : BK := match x with
  | .i ka a => binI ka a
  | .s n N => binS n N
  | x => binX x
def binK (h : T) (op : BinOp) (t : TypeId) (cx cy : Bool) (x y : AV) (k : KO) : Out := binF x P h op t cx cy y k
def unK (op : UnOp) (x : AV) (k : KO) : Out := match op, x with
  | .neg, .i kd n => wrapK kd (0 - n) k
  | .xor, .i kd n => nXor kd (if kd.signed then -1 else kd.max) n k
  | .not, .b b => fB (!b) fun r => k (.b r)
  | _, _ => .err 11 0

/-! a slice's cells -/
def cellsAt (h : T) (id off n : Nat) (k : List AV → Out) : Out := match h.get id with
  | some (.c cs _ _ _) => dropK cs off fun m => takeK m n k
  | _ => .err 12 0
/-- the first n elements -/
def firstK (h : T) (sz n : Nat) (x : AV) (k : List AV → Out) : Out := match x with
  | .sl id off _ _ => fN (Nat.mul n sz) fun m => cellsAt h id off m k
  | .so id d sz' _ => fN (Nat.mul n sz) fun m => fN (Nat.mul d sz') fun o => cellsAt h id o m k
  | .sn => k []
  | .s m N => (match Nat.beq sz 1 && Nat.ble n m with
    | true => u8L N n [] k
    | false => .err 12 2)
  | .se => (match Nat.beq n 0 with
    | true => k []
    | false => .err 12 4)
  | _ => .err 12 1
def lenOfK (x : AV) (k : Nat → Out) : Out := match x with
  | .sl _ _ n _ => k n
  | .so _ _ _ n => k n
  | .sn => k 0
  | .s n _ => k n
  | .se => k 0
  | _ => .err 12 3
/-- cells are written into a block -/
def mayStore (h : T) (id off : Nat) : Bool := match h.get id with
  | some (.c _ fz _ _) => Nat.ble fz off
  | _ => false
def storeK (lim : Nat) (h : T) (id off : Nat) (vs : List AV) (k : T → Out) : Out := match Nat.ble lim id && mayStore h id off with
  | false => (match Nat.beq vs.length 0 with
    | true => k h
    | false => .err 13 0)
  | true => match allOne vs with
      | false => .err 13 1
      | true => match h.get id with
        | some (.c cs fz osz pl) => putK cs off vs fun cs => Tr.setK h id (some (.c cs fz osz pl)) k
        | _ => .err 13 3
end
end
end Clu
end Go.Proofs.Ythghohgjedjpbaa
