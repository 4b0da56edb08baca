/-
  Runs of calls at whatever arguments: rules by which a run comes to what it comes to.
-/
import Derived.Test.YtlcggjaogbclkaaDoorCloLay
namespace Go.Proofs.YtlcggjaogbclkaaDoor
namespace Clo
open Go.RowKit
set_option linter.unusedVariables false

/-! tries -/
section
variable {α : Type}
def Tr.mk : Nat → Nat → Option α → Tr α
  | 0, _, _ => .e
  | _ + 1, 0, b => .n b .e .e
  | f + 1, k + 1, b => if k % 2 = 0 then .n none (Tr.mk f (k / 2) b) .e else .n none .e (Tr.mk f (k / 2) b)
def Tr.set : Tr α → Nat → Option α → Tr α
  | .e, k, b => Tr.mk (k + 1) k b
  | .n _ l r, 0, b => .n b l r
  | .n v l r, k + 1, b => if k % 2 = 0 then .n v (Tr.set l (k / 2) b) r else .n v l (Tr.set r (k / 2) b)
theorem Tr.mkK_eq : ∀ {f k : Nat} {b : Option α} {c : Tr α → Out}, k < f → Tr.mkK f k b c = c (Tr.mk f k b)
  | f + 1, 0, b, c, _ => rfl
  | f + 1, k + 1, b, c, h => by
    show @Nat.rec (fun _ => Out) (Tr.mkK f (k / 2) b fun t => c (.n none t .e)) (fun _ _ => Tr.mkK f (k / 2) b fun t => c (.n none .e t)) (k % 2) = _
    rcases Nat.mod_two_eq_zero_or_one k with hm | hm <;> rw [hm] <;> simp only [Tr.mk, hm] <;> exact Tr.mkK_eq (by omega)
theorem Tr.setK_eq : ∀ {t : Tr α} {k : Nat} {b : Option α} {c : Tr α → Out}, Tr.setK t k b c = c (Tr.set t k b)
  | .e, k, b, c => Tr.mkK_eq (Nat.lt_succ_self k)
  | .n v l r, 0, b, c => rfl
  | .n v l r, k + 1, b, c => by
    show @Nat.rec (fun _ => Out) (Tr.setK l (k / 2) b fun t => c (.n v t r)) (fun _ _ => Tr.setK r (k / 2) b fun t => c (.n v l t)) (k % 2) = _
    rcases Nat.mod_two_eq_zero_or_one k with hm | hm <;> rw [hm] <;> simp only [Tr.set, hm] <;> exact Tr.setK_eq
theorem Tr.get_mk : ∀ {f k : Nat} {b : Option α} (j : Nat), k < f → (Tr.mk f k b).get j = if j = k then b else none
  | f + 1, 0, b, 0, _ => rfl
  | f + 1, 0, b, j + 1, _ => by rw [Tr.mk, Tr.get_s]; simp [Tr.get_e]
  | f + 1, k + 1, b, 0, h => by rw [Tr.mk]; split <;> rw [Tr.get_0] <;> simp
  | f + 1, k + 1, b, j + 1, h => by
    rw [Tr.mk]
    split
    · rename_i hm
      rw [Tr.get_s, Tr.get_mk _ (by omega), Tr.get_e]
      by_cases hj : j = k
      · subst hj; simp [hm]
      · simp [hj]; intro h3 h4; omega
    · rename_i hm
      rw [Tr.get_s, Tr.get_mk _ (by omega), Tr.get_e]
      by_cases hj : j = k
      · subst hj; simp [hm]
      · simp [hj]; intro h3 h4; omega
theorem Tr.get_set : ∀ (t : Tr α) (k : Nat) (b : Option α) (j : Nat), (t.set k b).get j = if j = k then b else t.get j
  | .e, k, b, j => by rw [Tr.set, Tr.get_mk _ (Nat.lt_succ_self k), Tr.get_e]
  | .n v l r, 0, b, 0 => rfl
  | .n v l r, 0, b, j + 1 => by rw [Tr.set, Tr.get_s, Tr.get_s]; simp
  | .n v l r, k + 1, b, 0 => by rw [Tr.set]; split <;> rw [Tr.get_0, Tr.get_0] <;> simp
  | .n v l r, k + 1, b, j + 1 => by
    rw [Tr.set]
    split
    · rename_i hm
      rw [Tr.get_s, Tr.get_s, Tr.get_set]
      by_cases hj : j = k
      · subst hj; simp [hm]
      · simp [hj]
        by_cases h3 : j % 2 = 0
        · simp [h3]; intro h4; omega
        · simp [h3]
    · rename_i hm
      rw [Tr.get_s, Tr.get_s, Tr.get_set]
      by_cases hj : j = k
      · subst hj; simp [hm]
      · simp [hj]
        by_cases h3 : j % 2 = 0
        · simp [h3]
        · simp [h3]; intro h4; omega
theorem Tr.get_same (t : Tr α) (k : Nat) (b : Option α) : (t.set k b).get k = b := by rw [Tr.get_set, if_pos rfl]
theorem Tr.get_ne (t : Tr α) {k j : Nat} (b : Option α) (h : j ≠ k) : (t.set k b).get j = t.get j := by rw [Tr.get_set, if_neg h]
end

/-! what a run comes to -/
variable (P : Program) (X : XT)
/-- a call -/
structure Cl (lim : Nat) (f : FuncId) (args : List AV) (h : T) (nx : Nat) (v : AV) (h' : T) (nx' : Nat) : Prop where
  ex : ∃ n0, ∀ n, n0 ≤ n → ∀ k : KV, enterK P X (ev P X n) lim f args h nx k = k v h' nx'
/-- a body -/
structure Ev (nt lim : Nat) (c : Code) (fr : Fr) (h : T) (nx : Nat) (e : Ex) (fr' : Fr) (h' : T) (nx' : Nat) : Prop where
  ex : ∃ n0, ∀ n, n0 ≤ n → ∀ k : KE, ev P X n nt lim c fr h nx k = k e fr' h' nx'
/-- operations, one behind the other -/
structure Sq (nt lim : Nat) (ops l : List Oper) (fr : Fr) (h : T) (nx : Nat) (fr' : Fr) (h' : T) (nx' : Nat) : Prop where
  ex : ∃ n0, ∀ n, n0 ≤ n → ∀ k : KS, seqK P (enterK P X (ev P X n)) nt lim ops l fr h nx k = k fr' h' nx'
/-- operations in a row that is drawn -/
structure Dr (nt lim : Nat) (ops : List Oper) (i : Nat) (l : List Oper) (ms : List Nat) (bs : List Bool) (fr : Fr) (S h : T) (nx news : Nat) (lds : List (Nat × Nat)) (fr' : Fr) (h' : T) (nx' : Nat) : Prop where
  ex : ∃ n0, ∀ n, n0 ≤ n → ∀ k : KS, drK P (enterK P X (ev P X n)) nt lim ops i l ms bs fr S h nx news lds k = k fr' h' nx'
/-- an operation -/
structure Op1 (lim : Nat) (o : Op) (fr : Fr) (h : T) (nx : Nat) (v : AV) (h' : T) (nx' : Nat) : Prop where
  ex : ∃ n0, ∀ n, n0 ≤ n → ∀ k : KV, opF o P (enterK P X (ev P X n)) lim fr h nx k = k v h' nx'
variable {P X}
variable {nt lim : Nat} {fr fr1 fr2 : Fr} {h h1 h2 : T} {nx n1 n2 : Nat} {e : Ex} {v : AV}

theorem Cl.run {f : FuncId} {args : List AV} (a : Cl P X lim f args h nx v h1 n1) : ∃ n, runF P X n lim f args h nx = .ok v := by
  obtain ⟨n0, ha⟩ := a
  exact ⟨n0, ha n0 (Nat.le_refl _) _⟩
theorem Cl.body {f : FuncId} {fn : Func} {c : Code} {args vs : List AV} {m : Nat} (hX : X f = none) (hf : P.funcs[f]? = some fn) (hb : fn.body = some c) (ha : ∀ k, argsK args 0 .e k = k fr m) (hm : Nat.ble m fn.ntmps = true)
    (hc : Ev P X fn.ntmps lim c fr h nx e fr1 h1 n1) (he : e = .nor ∨ e = .ret) (hr : ∀ k, resK P fr1 h1 fn.results.toList k = k vs) (ho : ∀ k, oneK vs k = k v) : Cl P X lim f args h nx v h1 n1 := by
  obtain ⟨n0, hc⟩ := hc
  refine ⟨n0, fun n hn k => ?_⟩
  show @Option.rec _ (fun _ => Out) (bodyK P (ev P X n) lim f args h nx k) (fun c => c lim args h nx k) (X f) = _
  rw [hX]
  show bodyK P (ev P X n) lim f args h nx k = _
  unfold bodyK
  rw [getL_eq, Array.getElem?_toList, hf]
  simp only [hb]
  rw [ha]
  simp only [hm]
  rw [fN_eq, hc n hn]
  rcases he with rfl | rfl <;> simp only <;> rw [hr, ho]
/-- what stands for a function -/
theorem Cl.hand {f : FuncId} {c : HT} {args : List AV} (hX : X f = some c) (hc : ∀ k, c lim args h nx k = k v h1 n1) : Cl P X lim f args h nx v h1 n1 := ⟨0, fun n _ k => by
  show @Option.rec _ (fun _ => Out) (bodyK P (ev P X n) lim f args h nx k) (fun c => c lim args h nx k) (X f) = _
  rw [hX]
  exact hc k⟩

/-! bodies -/
theorem Ev.of {c : Code} (hk : ∀ n (k : KE), ev P X (n + 1) nt lim c fr h nx k = k e fr1 h1 n1) : Ev P X nt lim c fr h nx e fr1 h1 n1 := ⟨1, fun n hn k => by
  obtain ⟨m, rfl⟩ : ∃ m, n = m + 1 := ⟨n - 1, by omega⟩
  exact hk m k⟩
theorem Ev.skip : Ev P X nt lim .skip fr h nx .nor fr h nx := Ev.of fun _ _ => rfl
theorem Ev.label {l : Nat} : Ev P X nt lim (.label l) fr h nx .nor fr h nx := Ev.of fun _ _ => rfl
theorem Ev.ret : Ev P X nt lim .ret fr h nx .ret fr h nx := Ev.of fun _ _ => rfl
theorem Ev.exit {id : Nat} : Ev P X nt lim (.exit id) fr h nx (.exi id) fr h nx := Ev.of fun _ _ => rfl
theorem Ev.goto {l : Nat} : Ev P X nt lim (.goto l) fr h nx (.got l) fr h nx := Ev.of fun _ _ => rfl
theorem Ev.seq {a b : Code} (ha : Ev P X nt lim a fr h nx .nor fr1 h1 n1) (hb : Ev P X nt lim b fr1 h1 n1 e fr2 h2 n2) : Ev P X nt lim (.seq a b) fr h nx e fr2 h2 n2 := by
  obtain ⟨i, ha⟩ := ha
  obtain ⟨j, hb⟩ := hb
  refine ⟨i + j + 1, fun n hn k => ?_⟩
  obtain ⟨m, rfl⟩ : ∃ m, n = m + 1 := ⟨n - 1, by omega⟩
  show ev P X m nt lim a fr h nx _ = _
  rw [ha m (by omega)]
  exact hb m (by omega) k
theorem Ev.seq_out {a b : Code} (ha : Ev P X nt lim a fr h nx e fr1 h1 n1) (he : e ≠ .nor) : Ev P X nt lim (.seq a b) fr h nx e fr1 h1 n1 := by
  obtain ⟨i, ha⟩ := ha
  refine ⟨i + 1, fun n hn k => ?_⟩
  obtain ⟨m, rfl⟩ : ∃ m, n = m + 1 := ⟨n - 1, by omega⟩
  show ev P X m nt lim a fr h nx _ = _
  rw [ha m (by omega)]
  cases e with
  | nor => exact absurd rfl he
  | _ => rfl
theorem Ev.cond {c : Operand} {a b : Code} (x : Bool) (hx : ∀ k, opdK fr c k = k (.b x)) (hc : Ev P X nt lim (if x then a else b) fr h nx e fr1 h1 n1) : Ev P X nt lim (.cond c a b) fr h nx e fr1 h1 n1 := by
  obtain ⟨i, hc⟩ := hc
  refine ⟨i + 1, fun n hn k => ?_⟩
  obtain ⟨m, rfl⟩ : ∃ m, n = m + 1 := ⟨n - 1, by omega⟩
  show opdK fr c _ = _
  rw [hx]
  cases x
  · exact hc m (by omega) k
  · exact hc m (by omega) k
theorem Ev.block {id : Nat} {c : Code} (hc : Ev P X nt lim c fr h nx e fr1 h1 n1) : Ev P X nt lim (.block id c) fr h nx (match e with | .exi i => (if i = id then .nor else .exi i) | e => e) fr1 h1 n1 := by
  obtain ⟨i, hc⟩ := hc
  refine ⟨i + 1, fun n hn k => ?_⟩
  obtain ⟨m, rfl⟩ : ∃ m, n = m + 1 := ⟨n - 1, by omega⟩
  show ev P X m nt lim c fr h nx _ = _
  rw [hc m (by omega)]
  cases e with
  | exi i =>
    show @Bool.rec (fun _ => Out) (k (.exi i) fr1 h1 n1) (k .nor fr1 h1 n1) (Nat.beq i id) = _
    by_cases hi : i = id
    · rw [beq_iff.2 hi]; simp [hi]
    · rw [beq_ff.2 hi]; simp [hi]
  | _ => rfl
theorem Ev.loop {b : Code} (hb : Ev P X nt lim b fr h nx .nor fr1 h1 n1) (hl : Ev P X nt lim (.loop b) fr1 h1 n1 e fr2 h2 n2) : Ev P X nt lim (.loop b) fr h nx e fr2 h2 n2 := by
  obtain ⟨i, hb⟩ := hb
  obtain ⟨j, hl⟩ := hl
  refine ⟨i + j + 1, fun n hn k => ?_⟩
  obtain ⟨m, rfl⟩ : ∃ m, n = m + 1 := ⟨n - 1, by omega⟩
  show ev P X m nt lim b fr h nx _ = _
  rw [hb m (by omega)]
  exact hl m (by omega) k
theorem Ev.loop_out {b : Code} (hb : Ev P X nt lim b fr h nx e fr1 h1 n1) (he : e ≠ .nor) : Ev P X nt lim (.loop b) fr h nx e fr1 h1 n1 := by
  obtain ⟨i, hb⟩ := hb
  refine ⟨i + 1, fun n hn k => ?_⟩
  obtain ⟨m, rfl⟩ : ∃ m, n = m + 1 := ⟨n - 1, by omega⟩
  show ev P X m nt lim b fr h nx _ = _
  rw [hb m (by omega)]
  cases e with
  | nor => exact absurd rfl he
  | _ => rfl
theorem Ev.region {id : Nat} {ops : Array Oper} {l : List Oper} (hl : ops.toList = l) (hs : Sq P X nt lim l l fr h nx fr1 h1 n1) : Ev P X nt lim (.region id ops false) fr h nx .nor fr1 h1 n1 := by
  subst hl
  obtain ⟨i, hs⟩ := hs
  refine ⟨i + 1, fun n hn k => ?_⟩
  obtain ⟨m, rfl⟩ : ∃ m, n = m + 1 := ⟨n - 1, by omega⟩
  show seqK P (enterK P X (ev P X m)) nt lim ops.toList ops.toList fr h nx _ = _
  rw [hs m (by omega)]
theorem Ev.drawn {id : Nat} {ops : Array Oper} {l : List Oper} {ms : List Nat} {bs : List Bool} (hl : ops.toList = l) (ho : regionOk l = true) (hm : masks l = ms) (hb : barsL P l = bs) (hs : Dr P X nt lim l 0 l ms bs fr h h nx 0 [] fr1 h1 n1) : Ev P X nt lim (.region id ops true) fr h nx .nor fr1 h1 n1 := by
  subst hl hm hb
  obtain ⟨i, hs⟩ := hs
  refine ⟨i + 1, fun n hn k => ?_⟩
  obtain ⟨m, rfl⟩ : ∃ m, n = m + 1 := ⟨n - 1, by omega⟩
  show @Bool.rec (fun _ => Out) (.err 63 9) (drK P (enterK P X (ev P X m)) nt lim ops.toList 0 ops.toList (masks ops.toList) (barsL P ops.toList) fr h h nx 0 [] fun fr h nx => k .nor fr h nx) (regionOk ops.toList) = _
  rw [ho]
  exact hs m (by omega) _

/-! operations, one behind the other -/
theorem Sq.nil {ops : List Oper} : Sq P X nt lim ops [] fr h nx fr h nx := ⟨0, fun _ _ _ => rfl⟩
theorem Sq.op {ops l : List Oper} {o : Oper} (hw : wantedB ops fr o = true) (ho : Op1 P X lim o.op fr h nx v h1 n1) (hd : ∀ k, putD nt fr o.dst v k = k fr1) (hs : Sq P X nt lim ops l fr1 h1 n1 fr2 h2 n2) : Sq P X nt lim ops (o :: l) fr h nx fr2 h2 n2 := by
  obtain ⟨i, ho⟩ := ho
  obtain ⟨j, hs⟩ := hs
  refine ⟨i + j, fun n hn k => ?_⟩
  rw [seqK_cons, hw]
  show opF o.op P (enterK P X (ev P X n)) lim fr h nx _ = _
  rw [ho n (by omega), hd]
  exact hs n (by omega) k
theorem Sq.out {ops l : List Oper} {o : Oper} (hw : wantedB ops fr o = false) (hd : ∀ k, putD nt fr o.dst (.tu []) k = k fr1) (hs : Sq P X nt lim ops l fr1 h nx fr2 h2 n2) : Sq P X nt lim ops (o :: l) fr h nx fr2 h2 n2 := by
  obtain ⟨j, hs⟩ := hs
  refine ⟨j, fun n hn k => ?_⟩
  rw [seqK_cons, hw]
  show putD nt fr o.dst (.tu []) _ = _
  rw [hd]
  exact hs n (by omega) k

/-! operations -/
theorem Op1.pure {o : Op} (ho : ∀ call k, opF o P call lim fr h nx k = k v h1 n1) : Op1 P X lim o fr h nx v h1 n1 := ⟨0, fun n _ k => ho _ k⟩
theorem Op1.call {c : Call} {g : Operand} {f : FuncId} {args : List AV} (hc : c.callee = .value g) (hg : ∀ k, opdK fr g k = k (.fn (.func f) [] [])) (ha : ∀ k, opdsK fr c.args.toList k = k args) (hr : Cl P X lim f args h nx v h1 n1) : Op1 P X lim (.call c) fr h nx v h1 n1 := by
  obtain ⟨i, hr⟩ := hr
  refine ⟨i, fun n hn k => ?_⟩
  show opdsK fr c.args.toList (fun args => calleeF c.callee c.argTypes args P (enterK P X (ev P X n)) lim fr h nx k) = _
  rw [ha, hc]
  show opdK fr g _ = _
  rw [hg]
  show appK args [] _ = _
  rw [appK_eq, List.append_nil]
  show appK [] args _ = _
  rw [appK_eq, List.nil_append]
  exact hr n hn k
section
variable {a b : Operand} {t : TypeId} {pos : TypeId} {ka kb kd : IntKind} {x y : Int}
theorem bin_int {op : BinOp} (ha : ∀ k, opdK fr a k = k (.i ka x)) (hb : ∀ k, opdK fr b k = k (.i kb y)) (hz : ∀ k : KO, iiF op ka x kb y k = k v) : Op1 P X lim (.binOp op t a b pos) fr h nx v h nx := Op1.pure fun call k => by
  show opdK fr a (fun a' => opdK fr b fun b' => binK P h op t (isC a) (isC b) a' b' fun v => k v h nx) = _
  rw [ha, hb]
  exact hz _
theorem same_kind (f : I2) (kd : IntKind) (x y : Int) (k : KO) : iiOf f kd x kd y k = f kd x y k := by cases kd <;> rfl
theorem z_add (k : KO) : iiF .add kd x kd y k = k (.i kd (kd.wrap (x + y))) := by show iiOf nAdd kd x kd y k = _; rw [same_kind]; exact wrapK_eq _ _ _
theorem z_sub (k : KO) : iiF .sub kd x kd y k = k (.i kd (kd.wrap (x - y))) := by show iiOf nSub kd x kd y k = _; rw [same_kind]; exact wrapK_eq _ _ _
theorem z_mul (k : KO) : iiF .mul kd x kd y k = k (.i kd (kd.wrap (x * y))) := by show iiOf nMul kd x kd y k = _; rw [same_kind]; exact wrapK_eq _ _ _
theorem z_quo (hy : y ≠ 0) (k : KO) : iiF .quo kd x kd y k = k (.i kd (kd.wrap (x.tdiv y))) := by
  show iiOf nQuo kd x kd y k = _
  rw [same_kind, nQuo, iEq_eq, beq_false_of_ne hy]; exact wrapK_eq _ _ _
theorem z_rem (hy : y ≠ 0) (k : KO) : iiF .rem kd x kd y k = k (.i kd (x.tmod y)) := by
  show iiOf nRem kd x kd y k = _
  rw [same_kind, nRem, iEq_eq, beq_false_of_ne hy]; exact fI_eq _ _
/-- bits of two numbers -/
def bAnd (kd : IntKind) (x y : Int) : Int := kd.wrap (((modN x (fullN kd)) &&& (modN y (fullN kd)) : Nat) : Int)
def bOr (kd : IntKind) (x y : Int) : Int := kd.wrap (((modN x (fullN kd)) ||| (modN y (fullN kd)) : Nat) : Int)
def bXor (kd : IntKind) (x y : Int) : Int := kd.wrap (((modN x (fullN kd)) ^^^ (modN y (fullN kd)) : Nat) : Int)
theorem z_and (k : KO) : iiF .and kd x kd y k = k (.i kd (bAnd kd x y)) := by show iiOf nAnd kd x kd y k = _; rw [same_kind]; exact wrapK_eq _ _ _
theorem z_or (k : KO) : iiF .or kd x kd y k = k (.i kd (bOr kd x y)) := by show iiOf nOr kd x kd y k = _; rw [same_kind]; exact wrapK_eq _ _ _
theorem z_xor (k : KO) : iiF .xor kd x kd y k = k (.i kd (bXor kd x y)) := by show iiOf nXor kd x kd y k = _; rw [same_kind]; exact wrapK_eq _ _ _
theorem z_eql (k : KO) : iiF .eql kd x kd y k = k (.b (x == y)) := by show iiOf nEql kd x kd y k = _; rw [same_kind, nEql, fB_eq, iEq_eq]
theorem z_neq (k : KO) : iiF .neq kd x kd y k = k (.b (x != y)) := by show iiOf nNeq kd x kd y k = _; rw [same_kind, nNeq, fB_eq, iEq_eq, notK_eq]; rfl
theorem z_lss (k : KO) : iiF .lss kd x kd y k = k (.b (decide (x < y))) := by show iiOf nLss kd x kd y k = _; rw [same_kind, nLss, fB_eq, iLt_eq]
theorem z_gtr (k : KO) : iiF .gtr kd x kd y k = k (.b (decide (y < x))) := by show iiOf nGtr kd x kd y k = _; rw [same_kind, nGtr, fB_eq, iLt_eq]
theorem z_leq (k : KO) : iiF .leq kd x kd y k = k (.b (decide (x ≤ y))) := by
  show iiOf nLeq kd x kd y k = _
  rw [same_kind, nLeq, fB_eq, iLt_eq, notK_eq]
  congr 2
  rw [Bool.eq_iff_iff]; simp
theorem z_geq (k : KO) : iiF .geq kd x kd y k = k (.b (decide (y ≤ x))) := by
  show iiOf nGeq kd x kd y k = _
  rw [same_kind, nGeq, fB_eq, iLt_eq, notK_eq]
  congr 2
  rw [Bool.eq_iff_iff]; simp
theorem pow_two (n : Nat) : Int.ofNat (Nat.pow 2 n) = (2 : Int) ^ n := by
  show ((2 ^ n : Nat) : Int) = _
  simp
theorem z_shl (hy : 0 ≤ y) (k : KO) : iiF .shl ka x kb y k = k (.i ka (ka.wrap (x * 2 ^ (min y.toNat ka.bits)))) := by
  show shiftK .shl ka x y k = _
  unfold shiftK
  rw [ge0_eq, decide_eq_true hy]
  simp only [minN_eq, natOf_eq, bitsN_eq, pow_two]
  exact wrapK_eq _ _ _
theorem z_shr (hy : 0 ≤ y) (k : KO) : iiF .shr ka x kb y k = k (.i ka (x.fdiv (2 ^ (min y.toNat ka.bits)))) := by
  show shiftK .shr ka x y k = _
  unfold shiftK
  rw [ge0_eq, decide_eq_true hy]
  simp only [minN_eq, natOf_eq, bitsN_eq, pow_two]
  exact fI_eq _ _
theorem conv_int {s d : TypeId} {su : TypeDesc} (hs : P.underlying s = some su) (hd : P.underlying d = some (.int kd)) (ha : ∀ k, opdK fr a k = k (.i ka x)) : Op1 P X lim (.convert s d a) fr h nx (.i kd (kd.wrap x)) h nx := Op1.pure fun call k => by
  show opdK fr a (fun a => convertK P h nx s d a k) = _
  rw [ha]
  unfold convertK
  rw [hs, hd]
  exact wrapK_eq _ _ _
end
theorem Ex.exi_ne {i : Nat} : Ex.exi i ≠ .nor := fun h => by cases h
theorem Ex.ret_ne : Ex.ret ≠ .nor := fun h => by cases h
theorem Ex.got_ne {i : Nat} : Ex.got i ≠ .nor := fun h => by cases h
theorem Ex.no_exi {i : Nat} (id : Nat) (e : Ex) (h : e = .nor ∨ e = .ret) : e = .exi i → i ≠ id := fun he => by subst he; rcases h with h | h <;> cases h
theorem Ex.exi_other {j id : Nat} (h : Nat.beq j id = false) : ∀ i, Ex.exi j = .exi i → i ≠ id := fun i he => by cases he; exact beq_ff.1 h
theorem Ex.nor_other {id : Nat} : ∀ i, Ex.nor = .exi i → i ≠ id := fun i he => by cases he
theorem Ex.ret_other {id : Nat} : ∀ i, Ex.ret = .exi i → i ≠ id := fun i he => by cases he
theorem Ex.got_other {id j : Nat} : ∀ i, Ex.got j = .exi i → i ≠ id := fun i he => by cases he
theorem Ev.seq2 {a b : Code} {e1 : Ex} (ha : Ev P X nt lim a fr h nx e1 fr1 h1 n1) (hb : (e1 ≠ .nor ∧ e = e1 ∧ fr2 = fr1 ∧ h2 = h1 ∧ n2 = n1) ∨ (e1 = .nor ∧ Ev P X nt lim b fr1 h1 n1 e fr2 h2 n2)) : Ev P X nt lim (.seq a b) fr h nx e fr2 h2 n2 := by
  rcases hb with ⟨he, rfl, rfl, rfl, rfl⟩ | ⟨rfl, hb⟩
  · exact Ev.seq_out ha he
  · exact Ev.seq ha hb
theorem Ev.cond_t {c : Operand} {a b : Code} {x : Bool} (hx : ∀ k, opdK fr c k = k (.b x)) (ht : x = true) (hc : Ev P X nt lim a fr h nx e fr1 h1 n1) : Ev P X nt lim (.cond c a b) fr h nx e fr1 h1 n1 := Ev.cond x hx (by rw [if_pos ht]; exact hc)
theorem Ev.cond_f {c : Operand} {a b : Code} {x : Bool} (hx : ∀ k, opdK fr c k = k (.b x)) (ht : x = false) (hc : Ev P X nt lim b fr h nx e fr1 h1 n1) : Ev P X nt lim (.cond c a b) fr h nx e fr1 h1 n1 := Ev.cond x hx (by rw [if_neg (by rw [ht]; simp)]; exact hc)
theorem Ev.block2 {id : Nat} {c : Code} {e1 : Ex} (hc : Ev P X nt lim c fr h nx e1 fr1 h1 n1) (he : e = (match e1 with | .exi i => (if i = id then .nor else .exi i) | e => e)) : Ev P X nt lim (.block id c) fr h nx e fr1 h1 n1 := by subst he; exact Ev.block hc
section
variable {a b c : Operand} {t : TypeId} {pos : TypeId} {ka kb kd : IntKind} {x y : Int}
theorem Op1.pick_t {z : Bool} (hc : ∀ k, opdK fr c k = k (.b z)) (hz : z = true) (ha : ∀ k, opdK fr a k = k v) : Op1 P X lim (.pick c a b) fr h nx v h nx := Op1.pure fun call k => by
  show opdK fr c _ = _
  rw [hc, hz]
  exact ha _
theorem Op1.pick_f {z : Bool} (hc : ∀ k, opdK fr c k = k (.b z)) (hz : z = false) (ha : ∀ k, opdK fr b k = k v) : Op1 P X lim (.pick c a b) fr h nx v h nx := Op1.pure fun call k => by
  show opdK fr c _ = _
  rw [hc, hz]
  exact ha _
theorem un_not {z : Bool} (ha : ∀ k, opdK fr a k = k (.b z)) : Op1 P X lim (.unOp .not t a) fr h nx (.b (!z)) h nx := Op1.pure fun call k => by
  show opdK fr a (fun a => unK .not a fun v => k v h nx) = _
  rw [ha]
  simp only [unK, fB_eq]
theorem un_neg (ha : ∀ k, opdK fr a k = k (.i kd x)) : Op1 P X lim (.unOp .neg t a) fr h nx (.i kd (kd.wrap (0 - x))) h nx := Op1.pure fun call k => by
  show opdK fr a (fun a => unK .neg a fun v => k v h nx) = _
  rw [ha]
  simp only [unK, wrapK_eq]
theorem c_int {kd : IntKind} {n : Int} (k : KO) : opdK fr (.const (.int kd n)) k = k (.i kd n) := by show fI n (fun n => k (.i kd n)) = _; exact fI_eq _ _
theorem Op1.move_c {kd : IntKind} {n : Int} : Op1 P X lim (.move (.const (.int kd n))) fr h nx (.i kd n) h nx := Op1.pure fun call k => by show opdK fr (.const (.int kd n)) (fun v => k v h nx) = _; exact c_int _
theorem Op1.assign_c {kd : IntKind} {n : Int} : Op1 P X lim (.assign (.const (.int kd n))) fr h nx (.i kd n) h nx := Op1.pure fun call k => by show opdK fr (.const (.int kd n)) (fun v => k v h nx) = _; exact c_int _
/-- a text's bytes -/
theorem bin_str {op : BinOp} {n N m M : Nat} (ha : ∀ k, opdK fr a k = k (.s n N)) (hb : ∀ k, opdK fr b k = k (.s m M)) (hz : ∀ k : KO, strOpF op n N m M k = k v) : Op1 P X lim (.binOp op t a b pos) fr h nx v h nx := Op1.pure fun call k => by
  show opdK fr a (fun a' => opdK fr b fun b' => binK P h op t (isC a) (isC b) a' b' fun v => k v h nx) = _
  rw [ha, hb]
  exact hz _
theorem s_eql {n N m M : Nat} (k : KO) : strOpF .eql n N m M k = k (.b (eqNs n N m M)) := by show sEql n N m M k = _; rw [sEql, fB_eq]
theorem s_neq {n N m M : Nat} (k : KO) : strOpF .neq n N m M k = k (.b (!eqNs n N m M)) := by show sNeq n N m M k = _; rw [sNeq, fB_eq]
theorem s_add {n N m M : Nat} (hl : n + m < 4294967296) (k : KO) : strOpF .add n N m M k = k (.s (n + m) (catN n N M)) := by
  show @Bool.rec (fun _ => Out) (.err 10 5) (fN (Nat.add n m) fun l => fN (catN n N M) fun L => k (.s l L)) (Nat.blt (Nat.add n m) 4294967296) = _
  have e : Nat.blt (Nat.add n m) 4294967296 = true := blt_iff.2 hl
  rw [e]
  show fN _ _ = _
  rw [fN_eq, fN_eq]
  rfl
theorem bin_add (ha : ∀ k, opdK fr a k = k (.i kd x)) (hb : ∀ k, opdK fr b k = k (.i kd y)) : Op1 P X lim (.binOp .add t a b pos) fr h nx (.i kd (kd.wrap (x + y))) h nx := bin_int ha hb z_add
theorem bin_sub (ha : ∀ k, opdK fr a k = k (.i kd x)) (hb : ∀ k, opdK fr b k = k (.i kd y)) : Op1 P X lim (.binOp .sub t a b pos) fr h nx (.i kd (kd.wrap (x - y))) h nx := bin_int ha hb z_sub
theorem bin_mul (ha : ∀ k, opdK fr a k = k (.i kd x)) (hb : ∀ k, opdK fr b k = k (.i kd y)) : Op1 P X lim (.binOp .mul t a b pos) fr h nx (.i kd (kd.wrap (x * y))) h nx := bin_int ha hb z_mul
theorem bin_and (ha : ∀ k, opdK fr a k = k (.i kd x)) (hb : ∀ k, opdK fr b k = k (.i kd y)) : Op1 P X lim (.binOp .and t a b pos) fr h nx (.i kd (bAnd kd x y)) h nx := bin_int ha hb z_and
theorem bin_or (ha : ∀ k, opdK fr a k = k (.i kd x)) (hb : ∀ k, opdK fr b k = k (.i kd y)) : Op1 P X lim (.binOp .or t a b pos) fr h nx (.i kd (bOr kd x y)) h nx := bin_int ha hb z_or
theorem bin_xor (ha : ∀ k, opdK fr a k = k (.i kd x)) (hb : ∀ k, opdK fr b k = k (.i kd y)) : Op1 P X lim (.binOp .xor t a b pos) fr h nx (.i kd (bXor kd x y)) h nx := bin_int ha hb z_xor
theorem bin_eql (ha : ∀ k, opdK fr a k = k (.i kd x)) (hb : ∀ k, opdK fr b k = k (.i kd y)) : Op1 P X lim (.binOp .eql t a b pos) fr h nx (.b (x == y)) h nx := bin_int ha hb z_eql
theorem bin_neq (ha : ∀ k, opdK fr a k = k (.i kd x)) (hb : ∀ k, opdK fr b k = k (.i kd y)) : Op1 P X lim (.binOp .neq t a b pos) fr h nx (.b (x != y)) h nx := bin_int ha hb z_neq
theorem bin_lss (ha : ∀ k, opdK fr a k = k (.i kd x)) (hb : ∀ k, opdK fr b k = k (.i kd y)) : Op1 P X lim (.binOp .lss t a b pos) fr h nx (.b (decide (x < y))) h nx := bin_int ha hb z_lss
theorem bin_gtr (ha : ∀ k, opdK fr a k = k (.i kd x)) (hb : ∀ k, opdK fr b k = k (.i kd y)) : Op1 P X lim (.binOp .gtr t a b pos) fr h nx (.b (decide (y < x))) h nx := bin_int ha hb z_gtr
theorem bin_leq (ha : ∀ k, opdK fr a k = k (.i kd x)) (hb : ∀ k, opdK fr b k = k (.i kd y)) : Op1 P X lim (.binOp .leq t a b pos) fr h nx (.b (decide (x ≤ y))) h nx := bin_int ha hb z_leq
theorem bin_geq (ha : ∀ k, opdK fr a k = k (.i kd x)) (hb : ∀ k, opdK fr b k = k (.i kd y)) : Op1 P X lim (.binOp .geq t a b pos) fr h nx (.b (decide (y ≤ x))) h nx := bin_int ha hb z_geq
theorem bin_quo (ha : ∀ k, opdK fr a k = k (.i kd x)) (hb : ∀ k, opdK fr b k = k (.i kd y)) (hy : y ≠ 0) : Op1 P X lim (.binOp .quo t a b pos) fr h nx (.i kd (kd.wrap (x.tdiv y))) h nx := bin_int ha hb (z_quo hy)
theorem bin_rem (ha : ∀ k, opdK fr a k = k (.i kd x)) (hb : ∀ k, opdK fr b k = k (.i kd y)) (hy : y ≠ 0) : Op1 P X lim (.binOp .rem t a b pos) fr h nx (.i kd (x.tmod y)) h nx := bin_int ha hb (z_rem hy)
theorem bin_shl (ha : ∀ k, opdK fr a k = k (.i ka x)) (hb : ∀ k, opdK fr b k = k (.i kb y)) (hy : 0 ≤ y) : Op1 P X lim (.binOp .shl t a b pos) fr h nx (.i ka (ka.wrap (x * 2 ^ (min y.toNat ka.bits)))) h nx := bin_int ha hb (z_shl hy)
theorem bin_shr (ha : ∀ k, opdK fr a k = k (.i ka x)) (hb : ∀ k, opdK fr b k = k (.i kb y)) (hy : 0 ≤ y) : Op1 P X lim (.binOp .shr t a b pos) fr h nx (.i ka (x.fdiv (2 ^ (min y.toNat ka.bits)))) h nx := bin_int ha hb (z_shr hy)
theorem str_eql {n N m M : Nat} (ha : ∀ k, opdK fr a k = k (.s n N)) (hb : ∀ k, opdK fr b k = k (.s m M)) : Op1 P X lim (.binOp .eql t a b pos) fr h nx (.b (eqNs n N m M)) h nx := bin_str ha hb s_eql
theorem str_neq {n N m M : Nat} (ha : ∀ k, opdK fr a k = k (.s n N)) (hb : ∀ k, opdK fr b k = k (.s m M)) : Op1 P X lim (.binOp .neq t a b pos) fr h nx (.b (!eqNs n N m M)) h nx := bin_str ha hb s_neq
theorem bin_shr_c {m : Nat} (ha : ∀ k, opdK fr a k = k (.i ka x)) (hm : m ≤ ka.bits) : Op1 P X lim (.binOp .shr t a (.const (.int kb (Int.ofNat m))) pos) fr h nx (.i ka (x.fdiv (2 ^ m))) h nx := by
  have := bin_shr (P := P) (X := X) (lim := lim) (h := h) (nx := nx) (t := t) (pos := pos) ha (c_int (kd := kb) (n := Int.ofNat m)) (Int.natCast_nonneg m)
  rwa [show min (Int.ofNat m).toNat ka.bits = m from Nat.min_eq_left hm] at this
theorem bin_shl_c {m : Nat} (ha : ∀ k, opdK fr a k = k (.i ka x)) (hm : m ≤ ka.bits) : Op1 P X lim (.binOp .shl t a (.const (.int kb (Int.ofNat m))) pos) fr h nx (.i ka (ka.wrap (x * 2 ^ m))) h nx := by
  have := bin_shl (P := P) (X := X) (lim := lim) (h := h) (nx := nx) (t := t) (pos := pos) ha (c_int (kd := kb) (n := Int.ofNat m)) (Int.natCast_nonneg m)
  rwa [show min (Int.ofNat m).toNat ka.bits = m from Nat.min_eq_left hm] at this
/-- bools held against each other -/
theorem bin_bool {op : BinOp} {z u : Bool} {w : Bool} (ht : P.underlying t = some .bool) (ha : ∀ k, opdK fr a k = k (.b z)) (hb : ∀ k, opdK fr b k = k (.b u)) (ho : op = .eql ∧ w = (z == u) ∨ op = .neq ∧ w = !(z == u)) : Op1 P X lim (.binOp op t a b pos) fr h nx (.b w) h nx := Op1.pure fun call k => by
  show opdK fr a (fun a' => opdK fr b fun b' => binK P h op t (isC a) (isC b) a' b' fun v => k v h nx) = _
  rw [ha, hb]
  have he : ∀ k : Bool → Out, eqK P h 10000 t (.b z) (.b u) k = k (z == u) := fun k => by
    show eqK P h (9999 + 1) t (.b z) (.b u) k = _
    simp only [eqK, ht]
    cases z <;> cases u <;> rfl
  rcases ho with ⟨rfl, rfl⟩ | ⟨rfl, rfl⟩
  · simp only [binK, binF, binX, eqOpK, eqFree]
    exact he _
  · simp only [binK, binF, binX, eqOpK, eqFree]
    rw [he, fB_eq]
theorem Op1.load {id off fz osz : Nat} {pl : Option TypeId} {cs : List AV} (ha : ∀ k, opdK fr a k = k (.p id off)) (hg : h.get id = some (.c cs fz osz pl)) (hp : ∀ k, partK P t cs off k = k v) : Op1 P X lim (.load t a) fr h nx v h nx := Op1.pure fun call k => by
  show opdK fr a (fun a => loadK P h t a fun v => k v h nx) = _
  rw [ha]
  simp only [loadK, hg]
  exact hp _
theorem part_one {cs : List AV} {off : Nat} (ht : aggB P t = some false) (hc : getL cs off = some v) (k : KO) : partK P t cs off k = k v := by unfold partK; rw [ht]; simp only [hc]
theorem part_many {cs l : List AV} {off n : Nat} (ht : aggB P t = some true) (hs : ∀ k, sizeK P t k = k n) (hl : off + n ≤ cs.length) (hc : (cs.drop off).take n = l) (k : KO) : partK P t cs off k = k (.ag l) := by
  unfold partK
  rw [ht]
  simp only [hs]
  have d : ∀ (cs : List AV) (n : Nat) (k : List AV → Out), n ≤ cs.length → dropK cs n k = k (cs.drop n) := fun cs => by
    induction cs with
    | nil => intro n k h; obtain rfl : n = 0 := by simpa using h
             rfl
    | cons c cs ih => intro n k h; cases n with
      | zero => rfl
      | succ n => exact ih n k (by simpa using h)
  have tk : ∀ (cs : List AV) (n : Nat) (k : List AV → Out), n ≤ cs.length → takeK cs n k = k (cs.take n) := fun cs => by
    induction cs with
    | nil => intro n k h; obtain rfl : n = 0 := by simpa using h
             rfl
    | cons c cs ih => intro n k h; cases n with
      | zero => rfl
      | succ n => exact ih n _ (by simpa using h)
  rw [d _ _ _ (by omega), tk _ _ _ (by rw [List.length_drop]; omega), hc]
theorem Op1.alloc {z : AV} (hz : ∀ k, zeroK P t k = k z) : Op1 P X lim (.alloc t) fr h nx (.p nx 0) (h.set nx (some (.c z.cells 0 0 (some t)))) (nx + 1) := Op1.pure fun call k => by
  show zeroK P t (fun z => newK h nx (.c z.cells 0 0 (some t)) fun h n => k (.p nx 0) h n) = _
  rw [hz]
  unfold newK
  rw [Tr.setK_eq, fN_eq]
theorem Op1.box (ha : ∀ k, opdK fr a k = k v) : Op1 P X lim (.box t a) fr h nx (.p nx 0) (h.set nx (some (.c v.cells 0 0 (some t)))) (nx + 1) := Op1.pure fun call k => by
  show opdK fr a (fun v => newK h nx (.c v.cells 0 0 (some t)) fun h n => k (.p nx 0) h n) = _
  rw [ha]
  unfold newK
  rw [Tr.setK_eq, fN_eq]
theorem Op1.store {id off n fz osz : Nat} {pl : Option TypeId} {cs cs' : List AV} (ha : ∀ k, opdK fr a k = k (.p id off)) (hb : ∀ k, opdK fr b k = k v) (hs : ∀ k, sizeK P t k = k n) (hn : v.cells.length = n) (h0 : 0 < n) (hl : lim ≤ id) (h1 : allOne v.cells = true) (hg : h.get id = some (.c cs fz osz pl)) (hf : fz ≤ off)
    (hp : ∀ k, putK cs off v.cells k = k cs') : Op1 P X lim (.store t a b) fr h nx (.tu []) (h.set id (some (.c cs' fz osz pl))) nx := Op1.pure fun call k => by
  show opdK fr a (fun a => opdK fr b fun v => match a with
    | .p id off => sizeK P t fun n => lenK v.cells 0 fun m => (match Nat.beq m n with
      | true => storeK lim h id off v.cells fun h => k (.tu []) h nx
      | false => .err 40 1)
    | _ => .err 40 2) = _
  rw [ha, hb]
  simp only [hs]
  rw [lenK_eq, Nat.zero_add, beq_iff.2 hn]
  simp only
  unfold storeK
  cases hv : v.cells with
  | nil => rw [hv] at hn; simp at hn; omega
  | cons u us =>
    rw [hv] at h1 hp
    simp only [ble_iff.2 hl, h1, hg, ble_iff.2 hf, hp]
    exact Tr.setK_eq
theorem oneK_two (a b : AV) (l : List AV) (k : KO) : oneK (a :: b :: l) k = k (.tu (a :: b :: l)) := rfl
end
theorem Ev.block3 {id : Nat} {c : Code} {e1 : Ex} (hc : Ev P X nt lim c fr h nx e1 fr1 h1 n1) (he : (e1 = .exi id ∧ e = .nor) ∨ ((∀ i, e1 = .exi i → i ≠ id) ∧ e = e1)) : Ev P X nt lim (.block id c) fr h nx e fr1 h1 n1 := by
  refine Ev.block2 hc ?_
  rcases he with ⟨rfl, rfl⟩ | ⟨he, rfl⟩
  · simp
  · cases e with
    | exi i => simp [he i rfl]
    | _ => rfl
theorem Cl.eq {f : FuncId} {args : List AV} {v' : AV} (a : Cl P X lim f args h nx v h1 n1) (hv : v = v') : Cl P X lim f args h nx v' h1 n1 := hv ▸ a
theorem dropK_eq {α : Type} : ∀ (cs : List α) (n : Nat) (k : List α → Out), n ≤ cs.length → dropK cs n k = k (cs.drop n)
  | cs, 0, k, _ => by rw [dropK_zero]; rfl
  | [], n + 1, k, h => by simp at h
  | c :: cs, n + 1, k, h => by rw [dropK_succ, dropK_eq cs n k (by simpa using h)]; rfl
theorem takeK_eq {α : Type} : ∀ (cs : List α) (n : Nat) (k : List α → Out), n ≤ cs.length → takeK cs n k = k (cs.take n)
  | cs, 0, k, _ => by rw [takeK_zero]; rfl
  | [], n + 1, k, h => by simp at h
  | c :: cs, n + 1, k, h => by rw [takeK_succ, takeK_eq cs n _ (by simpa using h)]; rfl
/-- bytes, packed -/
def pk : List Nat → Nat
  | [] => 0
  | c :: l => Nat.add (c % 256) (Nat.mul 256 (pk l))
def u8s (l : List Nat) : List AV := l.map fun (c : Nat) => AV.i .u8 (Int.ofNat c)
theorem ofU8_eq : ∀ (l : List Nat) (k : Nat → Nat → Out), ofU8 (u8s l) k = k l.length (pk l)
  | [], _ => rfl
  | c :: l, k => by
    show ofU8 (AV.i .u8 (Int.ofNat c) :: u8s l) k = _
    simp only [ofU8]
    rw [ofU8_eq l, fN_eq, fN_eq]
    rfl
theorem lst_pk : ∀ l : List Nat, lst l.length (pk l) = l.map (· % 256)
  | [] => rfl
  | c :: l => by
    have := lst_cons (c % 256) l.length (pk l) (Nat.mod_lt _ (by decide))
    rw [lst_pk l] at this
    exact this
section
variable {a b : Operand} {t : TypeId} {ka kb : IntKind}
theorem Op1.makeSlice {e : TypeId} {i : TypeInfo} {z : AV} {l c : Nat} (hu : P.underlying t = some (.slice e)) (ha : ∀ k, opdK fr a k = k (.i ka (Int.ofNat l))) (hb : ∀ k, opdK fr b k = k (.i kb (Int.ofNat c))) (hi : P.info? e = some i) (hz : ∀ k, zeroK P e k = k z) (hlc : l ≤ c) (hc : c ≤ 100000000)
    (hbytes : i.bytes * c ≤ 281474976710656) (hzl : z.cells.length = i.size) : Op1 P X lim (.makeSlice t a b) fr h nx (.sl nx 0 l c) (h.set nx (some (.c (List.replicate c z.cells).flatten 0 0 (some e)))) (nx + 1) := Op1.pure fun call k => by
  show opdK fr a (fun l => opdK fr b fun c => makeSliceK P h nx t l c k) = _
  rw [ha, hb]
  unfold makeSliceK
  rw [hu]
  simp only [ble_iff.2 hlc, ble_iff.2 hc, hi]
  rw [show Nat.ble (Nat.mul i.bytes c) 281474976710656 = true from ble_iff.2 hbytes]
  simp only [hz]
  rw [lenK_eq, Nat.zero_add, beq_iff.2 hzl]
  simp only
  rw [repsK_eq, List.append_nil]
  unfold newK
  rw [Tr.setK_eq, fN_eq]
theorem conv_bytes {s d e : TypeId} {id off n c fz osz : Nat} {pl : Option TypeId} {cs : List AV} {l : List Nat} (hs : P.underlying s = some (.slice e)) (hd : P.underlying d = some .string) (he : P.underlying e = some (.int .u8)) (ha : ∀ k, opdK fr a k = k (.sl id off n c)) (hg : h.get id = some (.c cs fz osz pl))
    (hl : off + n ≤ cs.length) (hcs : (cs.drop off).take n = u8s l) : Op1 P X lim (.convert s d a) fr h nx (.s l.length (pk l)) h nx := Op1.pure fun call k => by
  show opdK fr a (fun a => convertK P h nx s d a k) = _
  rw [ha]
  unfold convertK
  rw [hs, hd]
  simp only [he]
  unfold cellsAt
  rw [hg]
  simp only
  rw [dropK_eq _ _ _ (by omega), takeK_eq _ _ _ (by rw [List.length_drop]; omega), hcs, ofU8_eq]
theorem len_str {n N : Nat} (hu : P.underlying t = some .string) (ha : ∀ k, opdK fr a k = k (.s n N)) : Op1 P X lim (.call { callee := .builtin .len, args := #[a], argTypes := #[t] }) fr h nx (.i .i64 (n : Int)) h nx := Op1.pure fun call k => by
  show opdK fr a (fun x => bLen [t] [x] P lim h nx k) = _
  rw [ha]
  simp only [bLen, hu]
  rfl
end
theorem res_cell {c t : Nat} {rest : List ResultVar} {id off fz osz : Nat} {pl : Option TypeId} {cs vs : List AV} (ha : ∀ k, opdK fr (.tmp c) k = k (.p id off)) (hg : h.get id = some (.c cs fz osz pl)) (hp : ∀ k, partK P t cs off k = k v) (hr : ∀ k, resK P fr h rest k = k vs) : ∀ k, resK P fr h (.cell c t :: rest) k = k (v :: vs) := fun k => by
  show opdK fr (.tmp c) (fun x => loadK P h t x fun v => resK P fr h rest fun m => k (v :: m)) = _
  rw [ha]
  simp only [loadK, hg, hp, hr]
theorem res_tmp {c : Nat} {rest : List ResultVar} {vs : List AV} (ha : ∀ k, opdK fr (.tmp c) k = k v) (hr : ∀ k, resK P fr h rest k = k vs) : ∀ k, resK P fr h (.tmp c :: rest) k = k (v :: vs) := fun k => by
  show opdK fr (.tmp c) (fun v => resK P fr h rest fun m => k (v :: m)) = _
  rw [ha, hr]
theorem res_nil : ∀ k, resK P fr h [] k = k [] := fun _ => rfl
/-! operations in a row that is drawn -/
section
variable {ops l : List Oper} {o : Oper} {i m news : Nat} {ms : List Nat} {b : Bool} {bs : List Bool} {S V h3 : T} {lds : List (Nat × Nat)} {n3 : Nat}
theorem Dr.nil : Dr P X nt lim ops i [] ms bs fr S h nx news lds fr h nx := ⟨0, fun n _ k => by cases ms <;> cases bs <;> rfl⟩
theorem Dr.out (hw : wantedB ops fr o = false) (hd : ∀ k, putD nt fr o.dst (.tu []) k = k fr1) (hs : Dr P X nt lim ops (i + 1) l ms bs fr1 S h nx news lds fr2 h2 n2) : Dr P X nt lim ops i (o :: l) (m :: ms) (b :: bs) fr S h nx news lds fr2 h2 n2 := by
  obtain ⟨j, hs⟩ := hs
  refine ⟨j, fun n hn k => ?_⟩
  unfold drK
  rw [hw]
  simp only
  rw [hd, fN_eq]
  exact hs n hn k
theorem Dr.light (hw : wantedB ops fr o = true) (hl : lightO P o = true) (ho : Op1 P X lim o.op fr .e nx v h1 nx) (hd : ∀ k, putD nt fr o.dst v k = k fr1) (hs : Dr P X nt lim ops (i + 1) l ms bs fr1 S h nx news lds fr2 h2 n2) : Dr P X nt lim ops i (o :: l) (m :: ms) (b :: bs) fr S h nx news lds fr2 h2 n2 := by
  obtain ⟨j, hs⟩ := hs
  obtain ⟨j', ho⟩ := ho
  refine ⟨j + j', fun n hn k => ?_⟩
  unfold drK
  rw [hw]
  simp only
  rw [hl]
  simp only [opK]
  rw [ho n (by omega)]
  simp only [Nat.beq_refl]
  rw [hd, fN_eq]
  exact hs n (by omega) k
theorem Dr.bar (hw : wantedB ops fr o = true) (hl : lightO P o = false) (hh : ∀ k, hideK m lds h k = k V []) (ho : Op1 P X lim o.op fr V nx v h1 n1) (hd : ∀ k, putD nt fr o.dst v k = k fr1) (hs : Dr P X nt lim ops (i + 1) l ms bs fr1 h1 h1 n1 0 lds fr2 h2 n2) : Dr P X nt lim ops i (o :: l) (m :: ms) (true :: bs) fr S h nx news lds fr2 h2 n2 := by
  obtain ⟨j, hs⟩ := hs
  obtain ⟨j', ho⟩ := ho
  refine ⟨j + j', fun n hn k => ?_⟩
  unfold drK
  rw [hw]
  simp only
  rw [hl]
  simp only [opK]
  rw [hh, ho n (by omega), hd]
  simp only [backK]
  rw [fN_eq]
  exact hs n (by omega) k
/-- a load: of what surely is there -/
theorem Dr.load {t : TypeId} {a : Operand} {id off fz osz : Nat} {pl : Option TypeId} {cs : List AV} (hw : wantedB ops fr o = true) (hl : lightO P o = false) (hop : o.op = .load t a) (ha : ∀ k, opdK fr a k = k (.p id off))
    (hV : (V = h ∧ Nat.beq (Nat.land news m) news = true) ∨ (V = S ∧ Nat.beq (Nat.land news m) news = false)) (hg : V.get id = some (.c cs fz osz pl)) (hp : ∀ k, partK P t cs off k = k v) (hd : ∀ k, putD nt fr o.dst v k = k fr1)
    (hs : Dr P X nt lim ops (i + 1) l ms bs fr1 S h nx news ((i, id) :: lds) fr2 h2 n2) : Dr P X nt lim ops i (o :: l) (m :: ms) (false :: bs) fr S h nx news lds fr2 h2 n2 := by
  obtain ⟨j, hs⟩ := hs
  refine ⟨j, fun n hn k => ?_⟩
  have view : ∀ (V : T) (c : T → Option Nat → Out), ldView fr V o c = c ((Tr.e : T).set id (V.get id)) (some id) := fun V c => by
    unfold ldView
    rw [hop]
    simp only
    rw [ha]
    simp only
    rw [fN_eq, Tr.setK_eq]
  have run : ∀ (V : T) (call : CallT) (c : KV), V.get id = some (.c cs fz osz pl) → opK P call nx o fr ((Tr.e : T).set id (V.get id)) nx c = c v ((Tr.e : T).set id (V.get id)) nx := fun V call c hV => by
    unfold opK
    rw [hop]
    show opdK fr a (fun a => loadK P _ t a fun v => c v _ nx) = _
    rw [ha]
    simp only [loadK, Tr.get_same, hV]
    exact hp _
  unfold drK
  rw [hw]
  simp only
  rw [hl]
  simp only
  rcases hV with ⟨rfl, hc⟩ | ⟨rfl, hc⟩
  · rw [hc]
    simp only
    rw [view, run _ _ _ hg, hd]
    simp only [Nat.beq_refl]
    rw [fN_eq]
    exact hs n hn k
  · rw [hc]
    simp only
    rw [view, run _ _ _ hg, hd]
    simp only [Nat.beq_refl]
    rw [fN_eq]
    exact hs n hn k
/-- another operation that nothing else waits for, on what is there, where all news are before it -/
theorem Dr.iso (hw : wantedB ops fr o = true) (hl : lightO P o = false) (hld : isLd o = false) (hc : Nat.beq (Nat.land news m) news = true) (ho : Op1 P X nx o.op fr h nx v h1 n1) (hn : Nat.beq nx n1 = false) (hd : ∀ k, putD nt fr o.dst v k = k fr1)
    (hs : Dr P X nt lim ops (i + 1) l ms bs fr1 S h1 n1 (Nat.lor news (Nat.pow 2 i)) lds fr2 h2 n2) : Dr P X nt lim ops i (o :: l) (m :: ms) (false :: bs) fr S h nx news lds fr2 h2 n2 := by
  obtain ⟨j, hs⟩ := hs
  obtain ⟨j', ho⟩ := ho
  refine ⟨j + j', fun n hn' k => ?_⟩
  have view : ∀ (V : T) (c : T → Option Nat → Out), ldView fr V o c = c V none := fun V c => by
    unfold ldView
    unfold isLd at hld
    split
    · rename_i t x hop; rw [hop] at hld; cases hld
    · rfl
  unfold drK
  rw [hw]
  simp only
  rw [hl]
  simp only
  rw [hc]
  simp only [opK]
  rw [view, ho n (by omega), hd, hn]
  simp only
  rw [fN_eq, fN_eq]
  exact hs n (by omega) k
/-- .. that makes nothing -/
theorem Dr.iso0 (hw : wantedB ops fr o = true) (hl : lightO P o = false) (hld : isLd o = false) (hc : Nat.beq (Nat.land news m) news = true) (ho : Op1 P X nx o.op fr h nx v h1 nx) (hd : ∀ k, putD nt fr o.dst v k = k fr1)
    (hs : Dr P X nt lim ops (i + 1) l ms bs fr1 S h nx news lds fr2 h2 n2) : Dr P X nt lim ops i (o :: l) (m :: ms) (false :: bs) fr S h nx news lds fr2 h2 n2 := by
  obtain ⟨j, hs⟩ := hs
  obtain ⟨j', ho⟩ := ho
  refine ⟨j + j', fun n hn' k => ?_⟩
  have view : ∀ (V : T) (c : T → Option Nat → Out), ldView fr V o c = c V none := fun V c => by
    unfold ldView
    unfold isLd at hld
    split
    · rename_i t x hop; rw [hop] at hld; cases hld
    · rfl
  unfold drK
  rw [hw]
  simp only
  rw [hl]
  simp only
  rw [hc]
  simp only [opK]
  rw [view, ho n (by omega), hd]
  simp only [Nat.beq_refl]
  rw [fN_eq]
  exact hs n (by omega) k
end
/-- what is left behind, as a function of what was there -/
theorem skolem {lim : Nat} {R : T → Nat → T → Prop} (H : ∀ h nx, lim ≤ nx → ∃ h', R h nx h') : ∃ f : T → Nat → T, ∀ h nx, lim ≤ nx → R h nx (f h nx) := by
  classical
  refine ⟨fun h nx => if hl : lim ≤ nx then (H h nx hl).choose else h, fun h nx hl => ?_⟩
  simp only [dif_pos hl]
  exact (H h nx hl).choose_spec
/-- a text's bytes, packed -/
theorem str_of (s : ByteArray) : ∃ N, ∀ r, VR r (.s s.size N) (.string s) := by
  obtain ⟨n, N, _, h2⟩ := strL_eq s.data.toList
  have hn : n = s.size := by
    have := congrArg List.length h2
    rw [lst_length, List.length_map, Array.length_toList] at this
    exact this
  subst hn
  refine ⟨N, fun r => ?_⟩
  show Value.string s = .string (bytes (lst s.size N))
  rw [h2, bytes_of]
/-! laid variables, at whatever calls -/
mutual
def AV.low : AV → Bool
  | .b _ | .i _ _ | .s _ _ | .pn | .sn | .ni | .nf | .mn => true
  | .p id _ => decide (id < 1000)
  | .ag l => AV.lows l
  | .fa _ a => AV.low a
  | _ => false
def AV.lows : List AV → Bool
  | [] => true
  | a :: l => AV.low a && AV.lows l
end
mutual
theorem VR.low {r : Rn} (hg : ∀ g, g < 1000 → r g = some (g, 0, 0)) : ∀ (a : AV) (v : Value), a.low = true → VR r a v → VR r0 a v
  | .b _, _, _, k => k
  | .i _ _, _, _, k => k
  | .s _ _, _, _, k => k
  | .pn, _, _, k => k
  | .sn, _, _, k => k
  | .ni, _, _, k => k
  | .nf, _, _, k => k
  | .mn, _, _, k => k
  | .p id off, _, h, ⟨B, O, K, k1, k2⟩ => by
    have h : id < 1000 := by simpa [AV.low] using h
    rw [hg id h] at k1
    cases k1
    exact ⟨id, 0, 0, if_pos h, k2⟩
  | .ag l, _, h, ⟨xs, k1, k2⟩ => ⟨xs, k1, VRs.low hg l xs (by simpa [AV.low] using h) k2⟩
  | .fa _ a, _, h, ⟨x, k1, k2⟩ => ⟨x, k1, VR.low hg a x (by simpa [AV.low] using h) k2⟩
  | .sl _ _ _ _, _, h, _ | .so _ _ _ _, _, h, _ | .se, _, h, _ | .tu _, _, h, _ | .fn _ _ _, _, h, _ | .mp _, _, h, _ => by simp [AV.low] at h
theorem VRs.low {r : Rn} (hg : ∀ g, g < 1000 → r g = some (g, 0, 0)) : ∀ (l : List AV) (xs : List Value), AV.lows l = true → VRs r l xs → VRs r0 l xs
  | [], _, _, k => k
  | a :: l, _, h, ⟨x, ys, k1, k2, k3⟩ => by
    simp only [AV.lows, Bool.and_eq_true] at h
    exact ⟨x, ys, k1, VR.low hg a x h.1 k2, VRs.low hg l ys h.2 k3⟩
end
def LaidIn (l : List (Nat × List AV)) (h : T) : Prop := ∀ g cs, (g, cs) ∈ l → h.get g = some (.c cs cs.length 0 none)
/-- variables, each once, whose cells are told -/
def LayOK (l : List (Nat × List AV)) : Prop := (∀ g cs, (g, cs) ∈ l → g < 1000 ∧ 0 < cs.length ∧ AV.lows cs = true) ∧ (l.map (·.1)).Nodup
theorem LaidIn.at {l : List (Nat × List AV)} {h : T} (hh : LaidIn l h) (hl : LayOK l) {p : Nat → Prop} {lim : Nat} {r : Rn} {w : World} (H : HR p lim r h.get w) : ∀ g cs, (g, cs) ∈ l → g < 1000 ∧ LaidAt w g cs := fun g cs hm => by
  obtain ⟨q1, q2, q3⟩ := hl.1 g cs hm
  refine ⟨q1, q2, fun j a ha => ?_⟩
  obtain ⟨B, O, K, e1, _, e3, _⟩ := H.blk g _ (hh g cs hm)
  rw [H.glob g q1] at e1
  cases e1
  obtain ⟨x, x1, x2⟩ := e3 j a ha
  refine ⟨x, by rw [Nat.zero_add] at x1; exact x1, VR.low H.glob a x ?_ x2⟩
  have : ∀ (cs : List AV) (j : Nat), AV.lows cs = true → cs[j]? = some a → a.low = true := fun cs => by
    induction cs with
    | nil => intro j _ h; simp at h
    | cons c cs ih =>
      intro j hc h
      simp only [AV.lows, Bool.and_eq_true] at hc
      cases j with
      | zero => cases h; exact hc.1
      | succ j => exact ih j hc.2 (by simpa using h)
  exact this cs j q3 ha
open Classical in
/-- a call without arguments that, where variables are laid so, comes to a truth -/
noncomputable def truthL (l : List (Nat × List AV)) (b : Bool) : HT := fun _ args h nx k => if args = [] ∧ LaidIn l h then k (.b b) h nx else .err 70 1
theorem truthL_ok {l : List (Nat × List AV)} (hl : LayOK l) {f : FuncId} {b : Bool} (hc : ∀ w, (∀ g cs, (g, cs) ∈ l → g < 1000 ∧ LaidAt w g cs) → CallSem P f [] w fun z w' => z = .bool b ∧ Below w.heap.size w w') : HandOK P f (truthL l b) := fun lim args hh nx k v ht hk => by
  unfold truthL at hk
  split at hk
  · rename_i hc2
    obtain ⟨rfl, hin⟩ := hc2
    refine ⟨_, _, _, hk, Keeps.refl _ _ _, fun p r w xs H hf hx => ?_⟩
    cases hx
    have := hc w (hin.at hl H)
    unfold CallSem at this ⊢
    split at this
    · obtain ⟨h1, h2⟩ := this
      exact left_below H h1 h2
    · refine Calls.mono this fun e w'' he => ?_
      cases e with
      | returned z => exact left_below H he.1 he.2
      | _ => exact he.elim
    · exact this.elim
  · cases hk
theorem truthL_run {l : List (Nat × List AV)} {b : Bool} (hin : LaidIn l h) (k : KV) : truthL l b lim [] h nx k = k (.b b) h nx := if_pos ⟨rfl, hin⟩
def layH : List (Nat × List AV) → T
  | [] => .e
  | (g, cs) :: l => (layH l).set g (some (.c cs cs.length 0 none))
theorem layH_in : ∀ {l : List (Nat × List AV)}, (l.map (·.1)).Nodup → LaidIn l (layH l)
  | [], _ => fun g cs h => by cases h
  | (g, cs) :: l, hn => fun g' cs' h => by
    simp only [List.map_cons, List.nodup_cons] at hn
    rw [layH, Tr.get_set]
    rcases List.mem_cons.1 h with q | q
    · cases q; rw [if_pos rfl]
    · rw [if_neg]
      · exact layH_in hn.2 g' cs' q
      · intro e
        subst e
        exact hn.1 (List.mem_map.2 ⟨(g', cs'), q, rfl⟩)
theorem layH_get : ∀ {l : List (Nat × List AV)} {j : Nat} {b : Blk}, (layH l).get j = some b → ∃ cs, (j, cs) ∈ l ∧ b = .c cs cs.length 0 none
  | [], j, b, h => by cases (Tr.get_e j).symm.trans h
  | (g, cs) :: l, j, b, h => by
    rw [layH, Tr.get_set] at h
    split at h
    · rename_i hj
      cases h
      exact ⟨cs, by simp [hj], rfl⟩
    · obtain ⟨cs', h1, h2⟩ := layH_get h
      exact ⟨cs', List.mem_cons_of_mem _ h1, h2⟩
/-- what is true of a call whose run, at whatever these arguments are, comes to a truth -/
theorem calls_at (hp : Plain P) (hX : XOK P X) (hm : P.follows .mixedOrders = true) {f : FuncId} {fn : Func} {c : Code} {b : Bool} {l : List (Nat × List AV)} (hl : LayOK l) (hf : P.funcs[f]? = some fn) (hb : fn.body = some c) {w : World} (hw : ∀ g cs, (g, cs) ∈ l → g < 1000 ∧ LaidAt w g cs)
    {args : List AV} {xs : List Value} (hx : VRs r0 args xs) (hk : ∀ h, LaidIn l h → ∃ h' nx', Cl P X 1000 f args h 1000 (.b b) h' nx') : Calls P f xs.toArray w fun e w' => e = .returned (.bool b) ∧ Below w.heap.size w w' := by
  obtain ⟨h', nx', hc⟩ := hk (layH l) (layH_in hl.2)
  obtain ⟨n, hr⟩ := hc.run
  refine calls_from hp hX (drK_ok hm) hf hb hr ⟨Nat.le_refl _, fun j hj => ?_⟩ (HR.laid hw fun j b hj => layH_get hj) (fun id h1 => if_neg (by omega)) hx
  cases hg : (layH l).get j with
  | none => rfl
  | some b =>
    obtain ⟨cs, h1, _⟩ := layH_get hg
    have := (hl.1 j cs h1).1
    omega
theorem sem_of_calls (hp : Plain P) {f : FuncId} {fn : Func} {c : Code} (hf : P.funcs[f]? = some fn) (hb : fn.body = some c) {b : Bool} {w : World} (h : Calls P f #[] w fun e w' => e = .returned (.bool b) ∧ Below w.heap.size w w') : CallSem P f [] w fun z w' => z = .bool b ∧ Below w.heap.size w w' := by
  unfold CallSem
  rw [run_enter hp hf hb]
  refine Calls.mono h fun e w' he => ?_
  cases e with
  | returned z => exact ⟨by have := he.1; cases this; rfl, he.2⟩
  | _ => cases he.1
/-- what stands for one more function -/
def addX (X : XT) (f : FuncId) (c : HT) : XT := fun g => if g = f then some c else X g
theorem addX_ok {X : XT} {f : FuncId} {c : HT} (hX : XOK P X) (hc : HandOK P f c) : XOK P (addX X f c) := fun g c' h => by
  unfold addX at h
  split at h
  · rename_i hg; subst hg; cases h; exact hc
  · exact hX g c' h
end Clo
end Go.Proofs.YtlcggjaogbclkaaDoor
