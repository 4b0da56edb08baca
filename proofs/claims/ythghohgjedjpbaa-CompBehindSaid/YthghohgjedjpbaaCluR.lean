/-
  Runs of closed calls by the kernel: operations.
-/
import Derived.Test.YthghohgjedjpbaaCluQ
import Derived.Lib.UnsafeStr
namespace Go.Proofs.Ythghohgjedjpbaa
namespace Clu
open Go.RowKit
set_option linter.unusedVariables false
variable {P : Program}

/-- a function is called: by its body, or by what stands for it -/
def CallSem (P : Program) (f : FuncId) (xs : List Value) (w : World) (R : Value → World → Prop) (Rp : List PanicEntry → World → Prop) : Prop := match (callFunc f xs.toArray).run P w with
  | .ok (.value z) w' => R z w'
  | .ok (.enter g ys) w' => Calls P g ys w' fun
    | .returned z, w'' => R z w''
    | .panicked c, w'' => Rp c w''
    | _, _ => False
  | _ => False
theorem CallSem.mono {f : FuncId} {xs : List Value} {w : World} {R R' : Value → World → Prop} {Rp Rp' : List PanicEntry → World → Prop} (h : CallSem P f xs w R Rp) (h1 : ∀ z w', R z w' → R' z w') (h2 : ∀ c w', Rp c w' → Rp' c w') : CallSem P f xs w R' Rp' := by
  unfold CallSem at h ⊢
  split at h
  · exact h1 _ _ h
  · refine Calls.mono h fun e w'' he => ?_
    cases e with
    | returned z => exact h1 _ _ he
    | panicked c => exact h2 _ _ he
    | outgrown => exact he.elim
  · exact h.elim
def noP : List PanicEntry → World → Prop := fun _ _ => False
/-- what is left behind -/
def Left (p : Nat → Prop) (lim : Nat) (r : Rn) (nx nx' : Nat) (h' : T) (a : AV) (w : World) (z : Value) (w' : World) : Prop :=
  ∃ r', Ext nx nx' r r' ∧ VR r' a z ∧ HR p lim r' h'.get w' ∧ Kp p w w'
/-- what is left behind by a panic -/
def LeftA (p : Nat → Prop) (lim : Nat) (r : Rn) (nx nx' : Nat) (h' : T) (a : AV) (w : World) (c : List PanicEntry) (w' : World) : Prop :=
  ∃ x z r', a = .pa x ∧ c = [{ v := z, recovered := false }] ∧ Ext nx nx' r r' ∧ VR r' x z ∧ HR p lim r' h'.get w' ∧ Kp p w w'
/-- numbers from nx on are free -/
def Top (lim : Nat) (h : T) (nx : Nat) : Prop := lim ≤ nx ∧ ∀ j, nx ≤ j → h.get j = none
theorem Keeps.top {lim : Nat} {h h' : T} {nx nx' : Nat} (a : Keeps lim h nx h' nx') (t : Top lim h nx) : Top lim h' nx' :=
  ⟨Nat.le_trans t.1 a.le, fun j hj => a.out j (t.2 j (Nat.le_trans a.le hj)) (.inr hj)⟩
def CallOK (P : Program) (call : CallT) : Prop := ∀ lim f args h nx k v, Top lim h nx → call lim f args h nx k = .ok v →
  ∃ a h' nx', k a h' nx' = .ok v ∧ Keeps lim h nx h' nx' ∧ ∀ p r w xs, HR p lim r h.get w → Free nx nx' r → VRs r args xs → CallSem P f xs w (Left p lim r nx nx' h' a w) (LeftA p lim r nx nx' h' a w)
def OpOK (P : Program) (lim : Nat) (o : Oper) (fr : Fr) (h : T) (nx : Nat) (a : AV) (h' : T) (nx' : Nat) : Prop :=
  Keeps lim h nx h' nx' ∧ ∀ p r w (act : Act), HR p lim r h.get w → Free nx nx' r → Env r fr act.eval o.op.operands.toList → ∀ next Q,
    (∀ x w', Left p lim r nx nx' h' a w x w' → next (act.put o.dst x) w') → (∀ c w', LeftA p lim r nx nx' h' a w c w' → Q (.panic c) act w') → o.wp P act w next Q
theorem wp_of_res {p : Nat → Prop} {lim nx nx' : Nat} {r : Rn} {h' : T} {a : AV} {o : Oper} {act : Act} {w : World} {s : Sem Value} {next : Act → World → Prop} {Q : Exit → Act → World → Prop}
    (he : (execOp act.eval o).run P w = (s.run P w).andThen fun z w' => .ok (.value z) w') (hr : Res p lim r nx nx' h' a w (s.run P w)) (hn : ∀ x w', Left p lim r nx nx' h' a w x w' → next (act.put o.dst x) w') : o.wp P act w next Q := by
  obtain ⟨r', z, w', h1, h2, h3, h4, h5⟩ := hr
  unfold Oper.wp
  rw [he, h1]
  exact hn z w' ⟨r', h2, h3, h4, h5⟩
theorem wp_of_unit {p : Nat → Prop} {lim nx : Nat} {r : Rn} {h' : T} {o : Oper} {act : Act} {w : World} {s : Sem Unit} {next : Act → World → Prop} {Q : Exit → Act → World → Prop}
    (he : (execOp act.eval o).run P w = (s.run P w).andThen fun _ w' => .ok .skip w') (hr : ∃ w', s.run P w = .ok () w' ∧ HR p lim r h'.get w' ∧ Kp p w w') (hn : ∀ x w', Left p lim r nx nx h' (.tu []) w x w' → next (act.put o.dst x) w') : o.wp P act w next Q := by
  obtain ⟨w', h1, h2, h3⟩ := hr
  unfold Oper.wp
  rw [he, h1]
  exact hn undef w' ⟨r, Ext.refl _ _ _, ⟨[], rfl, rfl⟩, h2, h3⟩
theorem run_v (s : Sem Value) (w : World) : ((do pure (.value (← s))) : Sem Next).run P w = (s.run P w).andThen fun z w' => .ok (.value z) w' := by
  simp only [Sem.run_bind]; rfl
theorem run_u (s : Sem Unit) (w : World) : ((do s; pure .skip) : Sem Next).run P w = (s.run P w).andThen fun _ w' => .ok .skip w' := by
  simp only [Sem.run_bind]; rfl
/-- an operation that leaves memory alone -/
theorem pure_ok {v : AV} {lim : Nat} {o : Oper} {fr : Fr} {h : T} {nx : Nat} {k : KV} {a : AV} (hk : k a h nx = .ok v)
    (hf : ∀ p r w (act : Act), HR p lim r h.get w → Env r fr act.eval o.op.operands.toList → ∃ z, (execOp act.eval o).run P w = .ok (.value z) w ∧ VR r a z) :
    ∃ a h' nx', k a h' nx' = .ok v ∧ OpOK P lim o fr h nx a h' nx' :=
  ⟨a, h, nx, hk, Keeps.refl _ _ _, fun p r w act H hfr he next Q hn _ => by
    obtain ⟨z, h1, h2⟩ := hf p r w act H he
    unfold Oper.wp
    rw [h1]
    exact hn z w ⟨r, Ext.refl _ _ _, h2, H, Kp.refl _ _⟩⟩
theorem res_ok {v : AV} {lim : Nat} {o : Oper} {fr : Fr} {h h' : T} {nx nx' : Nat} {k : KV} {a : AV} (hk : k a h' nx' = .ok v) (hkeep : Keeps lim h nx h' nx')
    (hf : ∀ p r w (act : Act), HR p lim r h.get w → Free nx nx' r → Env r fr act.eval o.op.operands.toList → ∃ s : Sem Value, (execOp act.eval o).run P w = (s.run P w).andThen (fun z w' => .ok (.value z) w') ∧ Res p lim r nx nx' h' a w (s.run P w)) :
    ∃ a h' nx', k a h' nx' = .ok v ∧ OpOK P lim o fr h nx a h' nx' :=
  ⟨a, h', nx', hk, hkeep, fun p r w act H hfr he next Q hn _ => by
    obtain ⟨s, h1, h2⟩ := hf p r w act H hfr he
    exact wp_of_res h1 h2 hn⟩
theorem unit_ok {v : AV} {lim : Nat} {o : Oper} {fr : Fr} {h h' : T} {nx : Nat} {k : KV} (hk : k (.tu []) h' nx = .ok v) (hkeep : KeepS lim h h')
    (hf : ∀ p r w (act : Act), HR p lim r h.get w → Env r fr act.eval o.op.operands.toList → ∃ s : Sem Unit, (execOp act.eval o).run P w = (s.run P w).andThen (fun _ w' => .ok .skip w') ∧ ∃ w', s.run P w = .ok () w' ∧ HR p lim r h'.get w' ∧ Kp p w w') :
    ∃ a h' nx', k a h' nx' = .ok v ∧ OpOK P lim o fr h nx a h' nx' :=
  ⟨_, h', nx, hk, keeps_set hkeep, fun p r w act H hfr he next Q hn _ => by
    obtain ⟨s, h1, h2⟩ := hf p r w act H he
    exact wp_of_unit h1 h2 hn⟩
theorem run_mi {t : TypeId} {x : Value} {d : TypeDesc} (hu : P.underlying t = some d) (hn : ∀ ms, d ≠ .interface ms) (w : World) : (Instr.makeInterface t x).run P w = .ok (.iface t x) w := by
  cases d <;> first | (exact absurd rfl (hn _)) | simp [Instr.makeInterface, run_underlying hu]
theorem optK_ok {v : AV} {fr : Fr} {x : Option Operand} {k : Option AV → Out} (hk : optK fr x k = .ok v) : ∃ a, k a = .ok v ∧ ∀ r ρ l, Env r fr ρ l → (∀ y ∈ x.toList, y ∈ l) → OR r a (x.map ρ) := by
  cases x with
  | none => exact ⟨none, hk, fun r ρ l he hm => trivial⟩
  | some x =>
    obtain ⟨a, h1, h2⟩ := opdK_ok (show opdK fr x _ = .ok v from hk)
    exact ⟨some a, h1, fun r ρ l he hm => he x (hm x (by simp)) a h2⟩
section
variable {call : CallT} {lim : Nat} {fr : Fr} {h : T} {nx : Nat} {k : KV} {v : AV} {dst : Option Tmp} {ty : TypeId} {pos : String} {after : Array Edge} {guard : Option (Nat × Bool)}

theorem ok_move {x : Operand} (as : Bool) (hk : oMove x P call lim fr h nx k = .ok v) : ∃ a h' nx', k a h' nx' = .ok v ∧ OpOK P lim ⟨dst, if as then .assign x else .move x, ty, pos, after, guard⟩ fr h nx a h' nx' := by
  obtain ⟨a, hk, ha⟩ := opdK_ok (show opdK fr x _ = .ok v from hk)
  refine pure_ok hk fun p r w act H he => ⟨act.eval x, ?_, ?_⟩
  · cases as <;> rfl
  · cases as <;> exact he.one (by simp [Op.operands]) ha
theorem ok_pick {c a b : Operand} (hk : oPick c a b P call lim fr h nx k = .ok v) : ∃ a' h' nx', k a' h' nx' = .ok v ∧ OpOK P lim ⟨dst, .pick c a b, ty, pos, after, guard⟩ fr h nx a' h' nx' := by
  obtain ⟨c', hk, hc⟩ := opdK_ok (show opdK fr c _ = .ok v from hk)
  split at hk
  · obtain ⟨a', hk, ha⟩ := opdK_ok hk
    refine pure_ok hk fun p r w act H he => ⟨act.eval a, ?_, he.one (by simp [Op.operands]) ha⟩
    have e : act.eval c = .bool true := he.one (x := c) (by simp [Op.operands]) hc
    simp [execOp, e, asBool]
  · obtain ⟨a', hk, ha⟩ := opdK_ok hk
    refine pure_ok hk fun p r w act H he => ⟨act.eval b, ?_, he.one (by simp [Op.operands]) ha⟩
    have e : act.eval c = .bool false := he.one (x := c) (by simp [Op.operands]) hc
    simp [execOp, e, asBool]
  · cases hk
theorem ok_alloc {t : TypeId} (hl : lim ≤ nx) (hk : oAlloc t P call lim fr h nx k = .ok v) : ∃ a h' nx', k a h' nx' = .ok v ∧ OpOK P lim ⟨dst, .alloc t, ty, pos, after, guard⟩ fr h nx a h' nx' := by
  obtain ⟨z, zv, i, hk, h1, h2, h3, h4, hznj⟩ := zeroK_ok (show zeroK P t _ = .ok v from hk)
  obtain ⟨h', hk, e1⟩ := newK_ok hk
  refine res_ok hk (keeps_new hl e1) fun p r w act H hf he => ⟨Instr.alloc t true (.tuple #[]), run_v _ w, ?_⟩
  obtain ⟨r', x1, x2, x3, x4, x5⟩ := H.fresh hf ((h3 r).cells hznj) (ty := t) e1
  rw [Array.toArray_toList] at x4 x5
  exact ⟨r', _, _, by simp [Instr.alloc, h4, newVar, newRow], x1, ⟨w.heap.size, 0, 0, x3, rfl⟩, x4, x5⟩
theorem ok_box {t : TypeId} {x : Operand} (hl : lim ≤ nx) (hk : oBox t x P call lim fr h nx k = .ok v) : ∃ a h' nx', k a h' nx' = .ok v ∧ OpOK P lim ⟨dst, .box t x, ty, pos, after, guard⟩ fr h nx a h' nx' := by
  obtain ⟨a, hk, ha⟩ := opdK_ok (show opdK fr x _ = .ok v from hk)
  cases hj : a.isJk with
  | true => rw [hj] at hk; cases hk
  | false =>
  rw [hj] at hk
  obtain ⟨h', hk, e1⟩ := newK_ok hk
  refine res_ok hk (keeps_new hl e1) fun p r w act H hf he => ⟨Instr.box t (act.eval x), run_v _ w, ?_⟩
  have hx := he.one (x := x) (by simp [Op.operands]) ha
  obtain ⟨r', x1, x2, x3, x4, x5⟩ := H.fresh hf (hx.cells hj) (ty := t) e1
  rw [Array.toArray_toList] at x4 x5
  exact ⟨r', _, _, by simp [Instr.box, newVar, newRow], x1, ⟨w.heap.size, 0, 0, x3, rfl⟩, x4, x5⟩
theorem ok_build {t : TypeId} {ps : Array (Nat × Operand)} (hk : oBuild t ps P call lim fr h nx k = .ok v) : ∃ a h' nx', k a h' nx' = .ok v ∧ OpOK P lim ⟨dst, .build t ps, ty, pos, after, guard⟩ fr h nx a h' nx' := by
  obtain ⟨a, hk, hf⟩ := buildK_ok (show buildK P fr t ps.toList _ = .ok v from hk)
  refine pure_ok hk fun p r w act H he => ?_
  obtain ⟨z, z1, z2⟩ := hf r act.eval _ w he (fun q hq => by simp only [Op.operands]; simp; exact ⟨q.1, by simpa using hq⟩)
  exact ⟨z, by show ((do pure (.value (← Instr.build t _))) : Sem Next).run P w = _; rw [run_v, z1]; rfl, z2⟩
theorem ok_buildSlice {t : TypeId} {n : Nat} {ps : Array (Nat × Operand)} (hl : lim ≤ nx) (hk : oBuildSlice t n ps P call lim fr h nx k = .ok v) : ∃ a h' nx', k a h' nx' = .ok v ∧ OpOK P lim ⟨dst, .buildSlice t n ps, ty, pos, after, guard⟩ fr h nx a h' nx' := by
  have hk' : fN n (fun n => buildSliceK P fr h nx t n ps.toList k) = .ok v := hk
  rw [fN_eq] at hk'
  obtain ⟨a, h', nx', hk, hkeep, hf⟩ := buildSliceK_ok hl hk'
  refine res_ok hk hkeep fun p r w act H hfr he => ⟨_, run_v _ w, hf p r w act.eval _ H hfr he (fun q hq => by simp only [Op.operands]; simp; exact ⟨q.1, by simpa using hq⟩)⟩
theorem ok_load {t : TypeId} {x : Operand} (hk : oLoad t x P call lim fr h nx k = .ok v) : ∃ a h' nx', k a h' nx' = .ok v ∧ OpOK P lim ⟨dst, .load t x, ty, pos, after, guard⟩ fr h nx a h' nx' := by
  obtain ⟨a, hk, ha⟩ := opdK_ok (show opdK fr x _ = .ok v from hk)
  obtain ⟨b, hk, hf⟩ := loadK_ok hk
  refine pure_ok hk fun p r w act H he => ?_
  obtain ⟨z, z1, z2⟩ := hf p lim r w _ H (he.one (x := x) (by simp [Op.operands]) ha)
  exact ⟨z, by show ((do pure (.value (← Instr.loadAt t _))) : Sem Next).run P w = _; rw [run_v, z1]; rfl, z2⟩
theorem ok_store {t : TypeId} {a x : Operand} (hk : oStore t a x P call lim fr h nx k = .ok v) : ∃ a' h' nx', k a' h' nx' = .ok v ∧ OpOK P lim ⟨dst, .store t a x, ty, pos, after, guard⟩ fr h nx a' h' nx' := by
  obtain ⟨a', hk, ha⟩ := opdK_ok (show opdK fr a _ = .ok v from hk)
  obtain ⟨x', hk, hx⟩ := opdK_ok hk
  split at hk
  · rename_i id off
    obtain ⟨i, hi, hk, hsz⟩ := sizeK_ok hk
    rw [lenK_eq, Nat.zero_add] at hk
    split at hk
    · rename_i hm
      simp only [Bool.and_eq_true, Bool.not_eq_true'] at hm
      have hj := hm.1
      have hm := beq_iff.1 hm.2
      obtain ⟨h', hk, hkeep, hst⟩ := storeK_ok (P := P) hk
      refine unit_ok hk hkeep fun p r w act H he => ⟨_, run_u _ w, ?_⟩
      have hav := he.one (x := a) (by simp [Op.operands]) ha
      have hxv := he.one (x := x) (by simp [Op.operands]) hx
      obtain ⟨Bk, O, K, hr, e⟩ := hav
      have hc := hxv.cells hj
      obtain ⟨w', w1, w2, w3⟩ := hst p r w _ Bk O K H hc hr
      refine ⟨w', ?_, w2, w3⟩
      rw [e]
      exact storeVar_ok hi (by have := hc.length; simp at this; omega) w1
    · cases hk
  · cases hk
theorem ok_nilCheck {x : Operand} (hk : oNilCheck x P call lim fr h nx k = .ok v) : ∃ a h' nx', k a h' nx' = .ok v ∧ OpOK P lim ⟨dst, .nilCheck x, ty, pos, after, guard⟩ fr h nx a h' nx' := by
  obtain ⟨a, hk, ha⟩ := opdK_ok (show opdK fr x _ = .ok v from hk)
  split at hk
  · refine pure_ok hk fun p r w act H he => ?_
    have hx := he.one (x := x) (by simp [Op.operands]) ha
    obtain ⟨Bk, O, K, hr, e⟩ := hx
    exact ⟨act.eval x, by simp [execOp, e], he.one (x := x) (by simp [Op.operands]) ha⟩
  · refine pure_ok hk fun p r w act H he => ?_
    have hx := he.one (x := x) (by simp [Op.operands]) ha
    obtain ⟨xs, ys, e, _⟩ := hx
    exact ⟨act.eval x, by simp [execOp, e], he.one (x := x) (by simp [Op.operands]) ha⟩
  · refine pure_ok hk fun p r w act H he => ?_
    have hx := he.one (x := x) (by simp [Op.operands]) ha
    obtain ⟨y, e, _⟩ := hx
    exact ⟨act.eval x, by simp [execOp, e], he.one (x := x) (by simp [Op.operands]) ha⟩
  · cases hk
theorem ok_bin {op : BinOp} {t yt : TypeId} {x y : Operand} (hk : oBin op t x y P call lim fr h nx k = .ok v) : ∃ a h' nx', k a h' nx' = .ok v ∧ OpOK P lim ⟨dst, .binOp op t x y yt, ty, pos, after, guard⟩ fr h nx a h' nx' := by
  obtain ⟨a, hk, ha⟩ := opdK_ok (show opdK fr x _ = .ok v from hk)
  obtain ⟨b, hk, hb⟩ := opdK_ok hk
  obtain ⟨c, hk, hf⟩ := binK_ok hk
  refine pure_ok hk fun p r w act H he => ?_
  obtain ⟨z, z1, z2⟩ := hf p lim r w _ _ H (he.one (x := x) (by simp [Op.operands]) ha) (he.one (x := y) (by simp [Op.operands]) hb)
  exact ⟨z, by show ((do pure (.value (← (do eqGuard op t x y _ _; binOp op t _ _)))) : Sem Next).run P w = _; rw [run_v, z1]; rfl, z2⟩
theorem ok_un {op : UnOp} {t : TypeId} {x : Operand} (hk : oUn op x P call lim fr h nx k = .ok v) : ∃ a h' nx', k a h' nx' = .ok v ∧ OpOK P lim ⟨dst, .unOp op t x, ty, pos, after, guard⟩ fr h nx a h' nx' := by
  obtain ⟨a, hk, ha⟩ := opdK_ok (show opdK fr x _ = .ok v from hk)
  obtain ⟨c, hk, hf⟩ := unK_ok (P := P) hk
  refine pure_ok hk fun p r w act H he => ?_
  obtain ⟨z, z1, z2⟩ := hf r w _ (he.one (x := x) (by simp [Op.operands]) ha)
  exact ⟨z, by show ((do pure (.value (← Op.unary op _))) : Sem Next).run P w = _; rw [run_v, z1]; rfl, z2⟩
theorem ok_convert {s d : TypeId} {x : Operand} (hl : lim ≤ nx) (hk : oConvert s d x P call lim fr h nx k = .ok v) : ∃ a h' nx', k a h' nx' = .ok v ∧ OpOK P lim ⟨dst, .convert s d x, ty, pos, after, guard⟩ fr h nx a h' nx' := by
  obtain ⟨a, hk, ha⟩ := opdK_ok (show opdK fr x _ = .ok v from hk)
  obtain ⟨b, h', nx', hk, hkeep, hf⟩ := convertK_ok hl hk
  exact res_ok hk hkeep fun p r w act H hfr he => ⟨_, run_v _ w, hf p r w _ H hfr (he.one (x := x) (by simp [Op.operands]) ha)⟩
theorem ok_makeInterface {t : TypeId} {x : Operand} (hk : oMakeInterface t x P call lim fr h nx k = .ok v) : ∃ a h' nx', k a h' nx' = .ok v ∧ OpOK P lim ⟨dst, .makeInterface t x, ty, pos, after, guard⟩ fr h nx a h' nx' := by
  obtain ⟨a, hk, ha⟩ := opdK_ok (show opdK fr x _ = .ok v from hk)
  split at hk
  · cases hk
  · rename_i d hn hu
    rw [fN_eq] at hk
    refine pure_ok hk fun p r w act H he => ⟨.iface t (act.eval x), ?_, ⟨_, rfl, he.one (x := x) (by simp [Op.operands]) ha⟩⟩
    show ((do pure (.value (← Instr.makeInterface t _))) : Sem Next).run P w = _
    rw [run_v, run_mi hu (fun ms e => hn ms e)]
    rfl
  · cases hk
theorem ok_makeFunc {f : Fn} {a c : Array Operand} (hk : oMakeFunc f a c P call lim fr h nx k = .ok v) : ∃ a' h' nx', k a' h' nx' = .ok v ∧ OpOK P lim ⟨dst, .makeFunc f a c, ty, pos, after, guard⟩ fr h nx a' h' nx' := by
  obtain ⟨as, hk, hal, ha⟩ := opdsK_ok (show opdsK fr a.toList _ = .ok v from hk)
  obtain ⟨cs, hk, hcl, hc⟩ := opdsK_ok hk
  refine pure_ok hk fun p r w act H he => ⟨.func f (a.map act.eval) (c.map act.eval), rfl, ⟨a.toList.map act.eval, c.toList.map act.eval, by rw [show a.map act.eval = (a.toList.map act.eval).toArray from (by apply Array.ext'; simp), show c.map act.eval = (c.toList.map act.eval).toArray from (by apply Array.ext'; simp)], ?_, ?_⟩⟩
  · exact he.list (fun x hx => by simp only [Op.operands]; simp; exact .inl (by simpa using hx)) hal ha
  · exact he.list (fun x hx => by simp only [Op.operands]; simp; exact .inr (by simpa using hx)) hcl hc
theorem ok_makeSlice {t : TypeId} {l c : Operand} (hl : lim ≤ nx) (hk : oMakeSlice t l c P call lim fr h nx k = .ok v) : ∃ a h' nx', k a h' nx' = .ok v ∧ OpOK P lim ⟨dst, .makeSlice t l c, ty, pos, after, guard⟩ fr h nx a h' nx' := by
  obtain ⟨a, hk, ha⟩ := opdK_ok (show opdK fr l _ = .ok v from hk)
  obtain ⟨b, hk, hb⟩ := opdK_ok hk
  obtain ⟨z, h', nx', hk, hkeep, hf⟩ := makeSliceK_ok hl hk
  exact res_ok hk hkeep fun p r w act H hfr he => ⟨_, run_v _ w, hf p r w _ _ H hfr (he.one (x := l) (by simp [Op.operands]) ha) (he.one (x := c) (by simp [Op.operands]) hb)⟩
theorem ok_slice {t : TypeId} {x : Operand} {lo hi mx : Option Operand} (hk : oSlice t x lo hi mx P call lim fr h nx k = .ok v) : ∃ a h' nx', k a h' nx' = .ok v ∧ OpOK P lim ⟨dst, .slice t x lo hi mx, ty, pos, after, guard⟩ fr h nx a h' nx' := by
  unfold oSlice at hk
  split at hk
  · obtain ⟨a, hk, ha⟩ := opdK_ok hk
    obtain ⟨l, hk, hlo⟩ := optK_ok hk
    obtain ⟨u, hk, hhi⟩ := optK_ok hk
    obtain ⟨z, hk, hf⟩ := sliceK_ok hk
    refine pure_ok hk fun p r w act H he => ?_
    obtain ⟨y, y1, y2⟩ := hf p lim r w _ _ _ H (he.one (x := x) (by simp [Op.operands]) ha) (hlo r _ _ he (fun y hy => by simp only [Op.operands]; simp at hy ⊢; simp [hy])) (hhi r _ _ he (fun y hy => by simp only [Op.operands]; simp at hy ⊢; simp [hy]))
    exact ⟨y, by show ((do pure (.value (← Instr.sliceAt t _ _ _ _))) : Sem Next).run P w = _; rw [run_v]; simp only [Option.map_none]; rw [y1]; rfl, y2⟩
  · rename_i mx
    obtain ⟨a, hk, ha⟩ := opdK_ok hk
    obtain ⟨l, hk, hlo⟩ := optK_ok hk
    obtain ⟨u, hk, hhi⟩ := optK_ok hk
    obtain ⟨m, hk, hm⟩ := opdK_ok hk
    obtain ⟨z, hk, hf⟩ := slice3K_ok (P := P) hk
    refine pure_ok hk fun p r w act H he => ?_
    obtain ⟨y, y1, y2⟩ := hf r w _ _ _ _ (he.one (x := x) (by simp [Op.operands]) ha) (hlo r _ _ he (fun y hy => by simp only [Op.operands]; simp at hy ⊢; simp [hy])) (hhi r _ _ he (fun y hy => by simp only [Op.operands]; simp at hy ⊢; simp [hy])) (he.one (x := mx) (by simp [Op.operands]) hm)
    exact ⟨y, by show ((do pure (.value (← Instr.sliceAt t _ _ _ _))) : Sem Next).run P w = _; rw [run_v]; simp only [Option.map_some]; rw [y1]; rfl, y2⟩
theorem ok_fieldAddr {t : TypeId} {x : Operand} {f : Nat} (hk : oFieldAddr t x f P call lim fr h nx k = .ok v) : ∃ a h' nx', k a h' nx' = .ok v ∧ OpOK P lim ⟨dst, .fieldAddr t x f, ty, pos, after, guard⟩ fr h nx a h' nx' := by
  obtain ⟨a, hk, ha⟩ := opdK_ok (show opdK fr x _ = .ok v from hk)
  obtain ⟨c, hk, hf⟩ := fieldAddrK_ok hk
  refine pure_ok hk fun p r w act H he => ?_
  obtain ⟨z, z1, z2⟩ := hf r w _ (he.one (x := x) (by simp [Op.operands]) ha)
  exact ⟨z, by show ((do pure (.value (← Instr.fieldAt t _ f))) : Sem Next).run P w = _; rw [run_v, z1]; rfl, z2⟩
theorem ok_field {t : TypeId} {x : Operand} {f : Nat} (hk : oField t x f P call lim fr h nx k = .ok v) : ∃ a h' nx', k a h' nx' = .ok v ∧ OpOK P lim ⟨dst, .field t x f, ty, pos, after, guard⟩ fr h nx a h' nx' := by
  obtain ⟨a, hk, ha⟩ := opdK_ok (show opdK fr x _ = .ok v from hk)
  obtain ⟨c, hk, hf⟩ := fieldK_ok hk
  refine pure_ok hk fun p r w act H he => ?_
  obtain ⟨z, z1, z2⟩ := hf r w _ (he.one (x := x) (by simp [Op.operands]) ha)
  exact ⟨z, by show ((do pure (.value (← Instr.field t _ f))) : Sem Next).run P w = _; rw [run_v, z1]; rfl, z2⟩
theorem ok_indexAddr {t : TypeId} {x i : Operand} (hk : oIndexAddr t x i P call lim fr h nx k = .ok v) : ∃ a h' nx', k a h' nx' = .ok v ∧ OpOK P lim ⟨dst, .indexAddr t x i, ty, pos, after, guard⟩ fr h nx a h' nx' := by
  obtain ⟨a, hk, ha⟩ := opdK_ok (show opdK fr x _ = .ok v from hk)
  obtain ⟨b, hk, hb⟩ := opdK_ok hk
  obtain ⟨c, hk, hf⟩ := indexAddrK_ok hk
  refine pure_ok hk fun p r w act H he => ?_
  obtain ⟨z, z1, z2⟩ := hf r w _ _ (he.one (x := x) (by simp [Op.operands]) ha) (he.one (x := i) (by simp [Op.operands]) hb)
  exact ⟨z, by show ((do pure (.value (← Instr.indexAt t _ _))) : Sem Next).run P w = _; rw [run_v, z1]; rfl, z2⟩
theorem ok_index {t : TypeId} {x i : Operand} (hk : oIndex t x i P call lim fr h nx k = .ok v) : ∃ a h' nx', k a h' nx' = .ok v ∧ OpOK P lim ⟨dst, .index t x i, ty, pos, after, guard⟩ fr h nx a h' nx' := by
  obtain ⟨a, hk, ha⟩ := opdK_ok (show opdK fr x _ = .ok v from hk)
  obtain ⟨b, hk, hb⟩ := opdK_ok hk
  obtain ⟨c, hk, hf⟩ := indexK_ok hk
  refine pure_ok hk fun p r w act H he => ?_
  obtain ⟨z, z1, z2⟩ := hf r w _ _ (he.one (x := x) (by simp [Op.operands]) ha) (he.one (x := i) (by simp [Op.operands]) hb)
  exact ⟨z, by show ((do pure (.value (← Instr.index t _ _))) : Sem Next).run P w = _; rw [run_v, z1]; rfl, z2⟩
theorem ok_range {t : TypeId} {x : Operand} (hl : lim ≤ nx) (hk : oRange t x P call lim fr h nx k = .ok v) : ∃ a h' nx', k a h' nx' = .ok v ∧ OpOK P lim ⟨dst, .range t x, ty, pos, after, guard⟩ fr h nx a h' nx' := by
  obtain ⟨a, hk, ha⟩ := opdK_ok (show opdK fr x _ = .ok v from hk)
  obtain ⟨b, h', nx', hk, hkeep, hf⟩ := rangeK_ok hl hk
  exact res_ok hk hkeep fun p r w act H hfr he => ⟨_, run_v _ w, hf p r w _ H hfr (he.one (x := x) (by simp [Op.operands]) ha)⟩
theorem ok_next {x : Operand} {isS : Bool} (hk : oNext x isS P call lim fr h nx k = .ok v) : ∃ a h' nx', k a h' nx' = .ok v ∧ OpOK P lim ⟨dst, .next x isS, ty, pos, after, guard⟩ fr h nx a h' nx' := by
  obtain ⟨a, hk, ha⟩ := opdK_ok (show opdK fr x _ = .ok v from hk)
  split at hk
  · obtain ⟨b, h', hk, hkeep, hf⟩ := nextK_ok (P := P) hk
    exact res_ok hk (keeps_set hkeep) fun p r w act H hfr he => ⟨_, run_v _ w, hf p r w _ ty nx H (he.one (x := x) (by simp [Op.operands]) ha)⟩
  · cases hk
theorem ok_typeAssert {x : Operand} {xt t : TypeId} {ok : Bool} (hk : oTypeAssert x t ok P call lim fr h nx k = .ok v) : ∃ a h' nx', k a h' nx' = .ok v ∧ OpOK P lim ⟨dst, .typeAssert x xt t ok, ty, pos, after, guard⟩ fr h nx a h' nx' := by
  obtain ⟨a, hk, ha⟩ := opdK_ok (show opdK fr x _ = .ok v from hk)
  obtain ⟨c, hk, hf⟩ := typeAssertK_ok hk
  refine pure_ok hk fun p r w act H he => ?_
  obtain ⟨z, z1, z2⟩ := hf r w _ xt (he.one (x := x) (by simp [Op.operands]) ha)
  exact ⟨z, by show ((do pure (.value (← Instr.typeAssert _ xt t ok))) : Sem Next).run P w = _; rw [run_v, z1]; rfl, z2⟩
theorem ok_extract {x : Operand} {n : Nat} (hk : oExtract x n P call lim fr h nx k = .ok v) : ∃ a h' nx', k a h' nx' = .ok v ∧ OpOK P lim ⟨dst, .extract x n, ty, pos, after, guard⟩ fr h nx a h' nx' := by
  obtain ⟨a, hk, ha⟩ := opdK_ok (show opdK fr x _ = .ok v from hk)
  split at hk
  · rename_i l
    rw [getL_eq] at hk
    split at hk
    · rename_i b hb
      refine pure_ok hk fun p r w act H he => ?_
      obtain ⟨xs, e, hxs⟩ := he.one (x := x) (by simp [Op.operands]) ha
      obtain ⟨z, z1, z2⟩ := hxs.get hb
      exact ⟨z, by simp [execOp, e, Instr.extract, z1], z2⟩
    · cases hk
  · cases hk
theorem ok_makeMap {t : TypeId} {rs : Option Operand} (hl : lim ≤ nx) (hk : oMakeMap t rs P call lim fr h nx k = .ok v) : ∃ a h' nx', k a h' nx' = .ok v ∧ OpOK P lim ⟨dst, .makeMap t rs, ty, pos, after, guard⟩ fr h nx a h' nx' := by
  have fin : ∀ {hk : (newK h nx (.mp [] 0) fun h n => k (.mp nx) h n) = .ok v}, (∀ (r : Rn) (act : Act) (w : World), Env r fr act.eval (Op.makeMap t rs).operands.toList → (Instr.makeMap t (rs.map act.eval)).run P w = .ok (.map (some w.heap.size)) (w.alloc (.map #[] 0))) →
      ∃ a h' nx', k a h' nx' = .ok v ∧ OpOK P lim ⟨dst, .makeMap t rs, ty, pos, after, guard⟩ fr h nx a h' nx' := fun {hk} hrun => by
    obtain ⟨h', hk, e1⟩ := newK_ok hk
    refine res_ok hk (keeps_new hl e1) fun p r w act H hf he => ⟨_, run_v _ w, ?_⟩
    have hn : r nx = none := hf nx (Nat.le_refl _) (by omega)
    refine ⟨updR r nx (w.heap.size, 0, 0), _, _, hrun r act w he, Ext.one _, ⟨w.heap.size, 0, 0, updR_same _ _ _, rfl⟩, ?_, Kp.of_below (below_alloc w _) H.bd⟩
    refine (H.new hn (below_alloc w (.map #[] 0)) (Nat.le_refl _) (b := .mp [] 0) ?_).congr e1
    exact ⟨w.heap.size, 0, 0, updR_same _ _ _, by simp, [], heap_alloc_new w _, rfl⟩
  unfold oMakeMap at hk
  split at hk
  · exact fin (hk := hk) fun r act w he => by simp [Instr.makeMap]
  · rename_i x
    split at hk
    · rename_i hu
      obtain ⟨a, hk, ha⟩ := opdK_ok hk
      split at hk
      · exact fin (hk := hk) fun r act w he => by
          have e := he.one (x := x) (by simp [Op.operands]) ha
          cases he' : act.eval x <;> rw [he'] at e <;> simp [VR] at e
          simp [Instr.makeMap, run_underlying hu, asInt, asIntOf, he']
      · cases hk
    · cases hk
theorem ok_lookup {t : TypeId} {x i : Operand} {ok : Bool} (hk : oLookup t x i ok P call lim fr h nx k = .ok v) : ∃ a h' nx', k a h' nx' = .ok v ∧ OpOK P lim ⟨dst, .lookup t x i ok, ty, pos, after, guard⟩ fr h nx a h' nx' := by
  obtain ⟨a, hk, ha⟩ := opdK_ok (show opdK fr x _ = .ok v from hk)
  obtain ⟨b, hk, hb⟩ := opdK_ok hk
  obtain ⟨c, hk, hf⟩ := lookupK_ok hk
  refine pure_ok hk fun p r w act H he => ?_
  obtain ⟨z, z1, z2⟩ := hf p lim r w _ _ H (he.one (x := x) (by simp [Op.operands]) ha) (he.one (x := i) (by simp [Op.operands]) hb)
  exact ⟨z, by show ((do pure (.value (← Instr.lookup t _ _ ok))) : Sem Next).run P w = _; rw [run_v, z1]; rfl, z2⟩
theorem ok_mapUpdate {t : TypeId} {m i x : Operand} (ins : Bool) (hk : oMapUpdate t m i x P call lim fr h nx k = .ok v) : ∃ a h' nx', k a h' nx' = .ok v ∧ OpOK P lim ⟨dst, if ins then .insert t m i x else .mapUpdate t m i x, ty, pos, after, guard⟩ fr h nx a h' nx' := by
  obtain ⟨a, hk, ha⟩ := opdK_ok (show opdK fr m _ = .ok v from hk)
  obtain ⟨b, hk, hb⟩ := opdK_ok hk
  obtain ⟨c, hk, hc⟩ := opdK_ok hk
  obtain ⟨h', hk, hkeep, hf⟩ := mapUpdateK_ok (P := P) hk
  have hops : (if ins then Op.insert t m i x else .mapUpdate t m i x).operands = #[m, i, x] := by cases ins <;> rfl
  refine unit_ok hk hkeep fun p r w act H he => ⟨Instr.mapUpdate t (act.eval m) (act.eval i) (act.eval x), ?_, ?_⟩
  · cases ins <;> exact run_u _ w
  · have he' : Env r fr act.eval [m, i, x] := by have := he; simp only [hops] at this; exact this
    exact hf p r w _ _ _ H (he'.one (x := m) (by simp) ha) (he'.one (x := i) (by simp) hb) (he'.one (x := x) (by simp) hc)

theorem ok_mapEntry {t : TypeId} {m i : Operand} (hk : oMapEntry t m i P call lim fr h nx k = .ok v) : ∃ a h' nx', k a h' nx' = .ok v ∧ OpOK P lim ⟨dst, .mapEntry t m i, ty, pos, after, guard⟩ fr h nx a h' nx' := by
  obtain ⟨a, hk, ha⟩ := opdK_ok (show opdK fr m _ = .ok v from hk)
  obtain ⟨b, hk, hb⟩ := opdK_ok hk
  obtain ⟨c, h', hk, hkeep, hf⟩ := mapEntryK_ok (P := P) hk
  refine res_ok hk (keeps_set hkeep) fun p r w act H hfr he => ⟨Instr.mapEntry t (act.eval m) (act.eval i), run_v _ w, ?_⟩
  obtain ⟨z, w', z1, z2, z3, z4⟩ := hf p r w _ _ H (he.one (x := m) (by simp [Op.operands]) ha) (he.one (x := i) (by simp [Op.operands]) hb)
  exact ⟨r, z, w', z1, Ext.refl _ _ _, z2, z3, z4⟩
theorem ok_entryStore {t : TypeId} {m i x : Operand} (hk : oEntryStore m i x P call lim fr h nx k = .ok v) : ∃ a h' nx', k a h' nx' = .ok v ∧ OpOK P lim ⟨dst, .entryStore t m i x, ty, pos, after, guard⟩ fr h nx a h' nx' := by
  obtain ⟨a, hk, ha⟩ := opdK_ok (show opdK fr m _ = .ok v from hk)
  obtain ⟨b, hk, hb⟩ := opdK_ok hk
  obtain ⟨c, hk, hc⟩ := opdK_ok hk
  obtain ⟨h', hk, hkeep, hf⟩ := entryStoreK_ok (P := P) hk
  refine unit_ok hk hkeep fun p r w act H he => ⟨Instr.entryStore t (act.eval m) (act.eval i) (act.eval x), run_u _ w, ?_⟩
  exact hf p r w _ _ _ _ H (he.one (x := m) (by simp [Op.operands]) ha) (he.one (x := i) (by simp [Op.operands]) hb) (he.one (x := x) (by simp [Op.operands]) hc)

/-! calls -/
theorem lenB_ok {t : TypeId} {x : AV} {args : List AV} (hk : bLen [t] [x] P lim h nx k = .ok v) :
    ∃ n : Nat, k (.i .i64 (.ofNat n)) h nx = .ok v ∧ ∀ p r w vx ty, HR p lim r h.get w → VR r x vx → (Builtin.len_ #[t] ty #[vx]).run P w = .ok (.int .i64 (n : Int)) w := by
  unfold bLen at hk
  simp only at hk
  split at hk
  · rename_i hu
    split at hk
    · refine ⟨_, hk, fun p r w vx ty H hx => ?_⟩
      cases hx
      simp [Builtin.len_, run_underlying hu, goInt, bytes_size, lst_length]
    · cases hk
  · rename_i n e hu
    rw [fN_eq] at hk
    exact ⟨_, hk, fun p r w vx ty H hx => by simp [Builtin.len_, run_underlying hu, goInt]⟩
  · rename_i a hu
    split at hk
    · rename_i n e hua
      rw [fN_eq] at hk
      exact ⟨_, hk, fun p r w vx ty H hx => by simp [Builtin.len_, run_underlying hu, run_underlying hua, goInt]⟩
    · cases hk
  · rename_i e hu
    split at hk
    · refine ⟨_, hk, fun p r w vx ty H hx => ?_⟩
      cases hx
      simp [Builtin.len_, run_underlying hu, goInt]
    · refine ⟨_, hk, fun p r w vx ty H hx => ?_⟩
      obtain ⟨_, _, _, _, rfl⟩ := hx
      simp [Builtin.len_, run_underlying hu, goInt]
    · refine ⟨_, hk, fun p r w vx ty H hx => ?_⟩
      obtain ⟨_, _, _, _, rfl⟩ := hx
      simp [Builtin.len_, run_underlying hu, goInt]
    · refine ⟨_, hk, fun p r w vx ty H hx => ?_⟩
      obtain ⟨_, _, rfl⟩ := hx
      simp [Builtin.len_, run_underlying hu, goInt]
    · cases hk
  · rename_i kt et hu
    obtain ⟨es, hk, he⟩ := entriesK_ok hk
    rw [lenK_eq, Nat.zero_add] at hk
    refine ⟨_, hk, fun p r w vx ty H hx => ?_⟩
    rcases he p lim r w vx H hx with ⟨rfl, rfl⟩ | ⟨Bk, xs, cl, rfl, e1, e2⟩
    · simp [Builtin.len_, run_underlying hu, goInt]
    · simp [Builtin.len_, run_underlying hu, goInt, getObj, Sem.run, e1, e2.length]
  · cases hk
theorem flatten_get {α : Type} {zs : List α} : ∀ {n j : Nat}, j < n * zs.length → (List.replicate n zs).flatten[j]? = zs[j % zs.length]?
  | 0, j, h => by omega
  | n + 1, j, h => by
    rw [List.replicate_succ, List.flatten_cons]
    by_cases hj : j < zs.length
    · rw [List.getElem?_append_left hj, Nat.mod_eq_of_lt hj]
    · rw [Nat.add_mul, Nat.one_mul] at h
      rw [List.getElem?_append_right (by omega), flatten_get (by omega), ← Nat.mod_eq_sub_mod (by omega)]
theorem zeroCells_vrs {r : Rn} {zs : List AV} {vs : Array Value} (h : VRs r zs vs.toList) (n : Nat) : VRs r (List.replicate n zs).flatten (Builtin.zeroCells vs n).toList := by
  have hl := h.length
  simp only [Array.length_toList] at hl
  refine VRs.of_get (by simp [Builtin.zeroCells, hl]) fun j a ha => ?_
  have hj : j < n * zs.length := by
    have := (List.getElem?_eq_some_iff.1 ha).1
    simpa using this
  rw [flatten_get hj] at ha
  obtain ⟨x, x1, x2⟩ := h.get ha
  refine ⟨x, ?_, x2⟩
  have hm : j % vs.size < vs.size := Nat.mod_lt _ (by rw [hl]; exact Nat.pos_of_ne_zero fun h0 => by rw [h0] at hj; omega)
  simp only [Builtin.zeroCells, Array.toList_map, Array.toList_range, List.getElem?_map]
  rw [List.getElem?_range (by rw [hl]; exact hj)]
  simp only [Option.map_some]
  rw [Array.getElem?_toList, ← hl, Array.getElem?_eq_getElem hm] at x1
  rw [getElem!_pos vs _ hm]
  exact x1
theorem clearAt_ok {v : AV} {lim : Nat} {h : T} {e : TypeId} {id off n : Nat} {k : T → Out} (hk : clearAt P lim h e id off n k = .ok v) :
    ∃ h', k h' = .ok v ∧ KeepS lim h h' ∧ ∀ p r w Bk O K c t ty, P.underlying t = some (.slice e) → HR p lim r h.get w → r id = some (Bk, O, K) →
      ∃ w', (Builtin.clear_ #[t] ty #[.slice (some ⟨Bk, O + off, none⟩) n c]).run P w = .ok (.tuple #[]) w' ∧ HR p lim r h'.get w' ∧ Kp p w w' := by
  unfold clearAt at hk
  split at hk
  · exact ⟨h, hk, KeepS.refl _ _, fun p r w Bk O K c t ty hu H hr => ⟨w, by simp [Builtin.clear_, run_underlying hu], H, Kp.refl _ _⟩⟩
  · rename_i n
    obtain ⟨z, zv, zi, hk, h1, h2, h3, h4, hznj⟩ := zeroK_ok hk
    rw [repsK_eq, List.append_nil] at hk
    obtain ⟨h', hk, hkeep, hst⟩ := storeK_ok (P := P) hk
    refine ⟨h', hk, hkeep, fun p r w Bk O K c t ty hu H hr => ?_⟩
    obtain ⟨w', w1, w2, w3⟩ := hst p r w _ Bk O K H (zeroCells_vrs ((h3 r).cells hznj) (Nat.succ n)) hr
    exact ⟨w', by simp [Builtin.clear_, run_underlying hu, h4, w1], w2, w3⟩
theorem clearK_ok {v : AV} {lim : Nat} {h : T} {t : TypeId} {x : AV} {k : T → Out} (hk : clearK P lim h t x k = .ok v) :
    ∃ h', k h' = .ok v ∧ KeepS lim h h' ∧ ∀ p r w vx ty, HR p lim r h.get w → VR r x vx →
      ∃ w', (Builtin.clear_ #[t] ty #[vx]).run P w = .ok (.tuple #[]) w' ∧ HR p lim r h'.get w' ∧ Kp p w w' := by
  unfold clearK at hk
  split at hk
  · rename_i e hu
    split at hk
    · refine ⟨h, hk, KeepS.refl _ _, fun p r w vx ty H hx => ⟨w, ?_, H, Kp.refl _ _⟩⟩
      cases hx
      simp [Builtin.clear_, run_underlying hu]
    · refine ⟨h, hk, KeepS.refl _ _, fun p r w vx ty H hx => ⟨w, ?_, H, Kp.refl _ _⟩⟩
      obtain ⟨a, c, rfl⟩ := hx
      simp [Builtin.clear_, run_underlying hu]
    · obtain ⟨h', hk, hkeep, hf⟩ := clearAt_ok (P := P) hk
      refine ⟨h', hk, hkeep, fun p r w vx ty H hx => ?_⟩
      obtain ⟨Bk, O, K, hr, rfl⟩ := hx
      exact hf p r w Bk O K _ t ty hu H hr
    · rw [fN_eq] at hk
      obtain ⟨h', hk, hkeep, hf⟩ := clearAt_ok (P := P) hk
      refine ⟨h', hk, hkeep, fun p r w vx ty H hx => ?_⟩
      obtain ⟨Bk, O, K, hr, rfl⟩ := hx
      exact hf p r w Bk O K _ t ty hu H hr
    · cases hk
  · cases hk
theorem sliceData_ok {ts : List TypeId} {args : List AV} (hk : bSliceData ts args P lim h nx k = .ok v) :
    ∃ a, k a h nx = .ok v ∧ ∀ p r w xs (ta : Array TypeId) ty, HR p lim r h.get w → VRs r args xs → Res p lim r nx nx h a w ((Builtin.unsafeSliceData_ ta ty xs.toArray).run P w) := by
  unfold bSliceData at hk
  split at hk
  · refine ⟨_, hk, fun p r w xs ta ty H hx => ?_⟩
    obtain ⟨y, ys, rfl, rfl, rfl⟩ := hx
    exact Res.pure (Lib.run_unsafeSliceData_nil w ta ty 0 0) rfl H
  · rename_i id sz n
    split at hk
    · rename_i c cs fz osz pl hb
      split at hk
      · rename_i hc
        simp only [Bool.and_eq_true] at hc
        have h1 := beq_iff.1 hc.1
        have h2 := blt_iff.1 hc.2
        subst h1
        refine ⟨_, hk, fun p r w xs ta ty H hx => ?_⟩
        obtain ⟨y, ys, rfl, ⟨B, O, K, hr, rfl⟩, rfl⟩ := hx
        obtain ⟨_, _, _, e0, _, m⟩ := H.blk id _ hb
        rw [hr] at e0; cases e0
        have m4 := m.2.2.2.1 (by omega)
        have hK : K - 0 ≠ 0 := fun e => by
          have : K = 0 := by omega
          subst this
          simp at m4
        exact Res.pure (Lib.run_unsafeSliceData_row w ta ty _ n (K - 0) hK) ⟨B, O, K, hr, by simp⟩ H
      · cases hk
    · cases hk
  · cases hk
theorem allByte_get {cs : List AV} (h : allByte cs = true) {j : Nat} {kd : IntKind} {c : Nat} (hj : cs[j]? = some (.i kd (.ofNat c))) : c < 256 := by
  have := List.all_eq_true.1 h _ (List.mem_of_getElem? hj)
  exact blt_iff.1 this
theorem ro_no {cs : List AV} {f o : Nat} {pl : Option TypeId} (h : f ≤ cs.length) : (Blk.c cs f o pl).ro = false := by
  show Nat.blt cs.length f = false
  cases hb : Nat.blt cs.length f with
  | false => rfl
  | true => have := blt_iff.1 hb; omega
theorem ustring_ok {ts : Array TypeId} {args : List AV} (hl : lim ≤ nx) (hk : bString ts.toList args P lim h nx k = .ok v) :
    ∃ a h', k a h' nx = .ok v ∧ Keeps lim h nx h' nx ∧ ∀ p r w xs ty, HR p lim r h.get w → VRs r args xs → Res p lim r nx nx h' a w ((Builtin.unsafeString_ ts ty xs.toArray).run P w) := by
  unfold bString at hk
  split at hk
  · rename_i pt it hts
    have hts : ts = #[pt, it] := by rw [← Array.toArray_toList (xs := ts), hts]
    subst hts
    refine ⟨_, _, hk, Keeps.refl _ _ _, fun p r w xs ty H hx => ?_⟩
    obtain ⟨y, ys, rfl, rfl, z, zs, rfl, rfl, rfl⟩ := hx
    exact Res.pure (Lib.run_unsafeString_none w pt it ty none) rfl H
  · rename_i pt it id n hts
    have hts : ts = #[pt, it] := by rw [← Array.toArray_toList (xs := ts), hts]
    subst hts
    split at hk
    · rename_i e cs fz osz ty0 hu hb
      rw [lenK_eq, Nat.zero_add] at hk
      split at hk
      · rename_i hc
        simp only [Bool.and_eq_true] at hc
        obtain ⟨c1, c2, c3, c4, c5, c6, c7, c8, c9⟩ := hc
        have c1 := beq_iff.1 c1
        have c2 := blt_iff.1 c2
        have c3 := beq_iff.1 c3
        have c4 := blt_iff.1 c4
        have c5 := ble_iff.1 c5
        have c6 := beq_iff.1 c6
        have c7 := ble_iff.1 c7
        have c8 := ble_iff.1 c8
        subst c1
        subst c6
        obtain ⟨ns, m, N, q1, q2, q3⟩ := ofU8_ok hk
        obtain ⟨h', q2, e1⟩ := Tr.setK_ok q2
        have e1 : ∀ j, h'.get j = upd h.get id (some (.c cs cs.length 0 none)) j := fun j => by rw [e1]; rfl
        refine ⟨_, h', q2, keeps_set (KeepS.upd hb c5 e1 (ro_no (Nat.le_refl _))), fun p r w xs ty H hx => ?_⟩
        obtain ⟨y, ys, rfl, ⟨B, O, K, hr, rfl⟩, z, zs, rfl, rfl, rfl⟩ := hx
        obtain ⟨_, _, _, e0, _, k1, _, _, k4, k5, _⟩ := H.blk id _ hb
        rw [hr] at e0; cases e0
        obtain ⟨hO, cells, hsh, hcells⟩ : O = 0 ∧ ∃ cells, w.shape? B = some (ty0, cells) ∧ cs.length ≤ cells := by
          rcases (k5 _ rfl).2 with h1 | ⟨h1, h2⟩ | ⟨h0, h1, n', h2, h3⟩
          · exact absurd c2 (by rw [h1]; exact Nat.lt_irrefl _)
          · exact ⟨h1, _, h2, Nat.le_refl _⟩
          · exact ⟨h1, _, h3, Nat.le_trans (k4 h0) h2⟩
        subst hO
        have hlen : ((lst m N).map UInt8.ofNat).length = cs.length := by rw [q3, q1]; simp
        have hrun := Lib.run_unsafeString_row (P := P) w pt it ty ty0 hu c3 B cells hsh ((lst m N).map UInt8.ofNat) (fun e => by rw [e] at hlen; simp at hlen; omega) (by rw [hlen]; exact hcells) (by rw [hlen]; omega) fun j x hj => by
          rw [q3, List.map_map, List.getElem?_map] at hj
          obtain ⟨a, ha, hx⟩ := Option.map_eq_some_iff.1 hj
          have hcs : cs[j]? = some (.i .u8 (Int.ofNat a)) := by rw [q1, List.getElem?_map, ha]; rfl
          obtain ⟨u, u1, u2⟩ := k1 j _ hcs
          have u2 : u = .int .u8 (Int.ofNat a) := u2
          have ha256 := allByte_get c9 hcs
          subst hx u2
          rw [show ((⟨B, 0, none⟩ : Addr).add j) = ⟨B, 0 + j, none⟩ from by unfold Addr.add; by_cases hj0 : j = 0 <;> simp [hj0]]
          rw [u1]
          have hx2 : (UInt8.ofNat (a % 256)).toNat = a := by simp; omega
          show _ = some (Value.int .u8 (((UInt8.ofNat (a % 256)).toNat : Nat) : Int))
          rw [hx2]
          rfl
        obtain ⟨H', K'⟩ := H.freeze hb c5 (ro_no c7) hr cs.length
        refine ⟨r, _, _, ?_, Ext.refl _ _ _, rfl, H'.congr e1, K'⟩
        rw [hlen] at hrun
        exact hrun
      · cases hk
    · cases hk
  · cases hk
theorem builtinF_ok {b : Builtin} {ts : Array TypeId} {args : List AV} (hl : lim ≤ nx) (hk : builtinF b ts.toList args P lim h nx k = .ok v) :
    ∃ a h' nx', k a h' nx' = .ok v ∧ Keeps lim h nx h' nx' ∧ ∀ p r w xs ty cs, HR p lim r h.get w → Free nx nx' r → VRs r args xs → ∃ s : Sem Value, (builtin b ts ty cs xs.toArray).run P w = (s.run P w).andThen (fun z w' => .ok (.value z) w') ∧ Res p lim r nx nx' h' a w (s.run P w) := by
  have two : ∀ {r : Rn} {x y : AV} {xs : List Value}, VRs r [x, y] xs → ∃ u z, xs = [u, z] ∧ VR r x u ∧ VR r y z := fun {r x y xs} hx => by
    obtain ⟨u, us, rfl, h1, z, zs, rfl, h2, rfl⟩ := hx
    exact ⟨u, z, rfl, h1, h2⟩
  have ts2 : ∀ {t u : TypeId}, ts.toList = [t, u] → ts = #[t, u] := fun e => by rw [← Array.toArray_toList (xs := ts), e]
  cases b
  case append =>
    have hk' : bAppend ts.toList args P lim h nx k = .ok v := hk
    unfold bAppend at hk'
    split at hk'
    · rename_i t u s x hts
      have hts := ts2 hts
      subst hts
      obtain ⟨a, h', nx', hk, hkeep, hf⟩ := appendK_ok hl hk'
      refine ⟨a, h', nx', hk, hkeep, fun p r w xs ty cs H hfr hx => ?_⟩
      obtain ⟨y, z, rfl, hy, hz⟩ := two hx
      exact ⟨Builtin.append_ #[t, u] ty #[y, z], run_v _ w, hf p r w y z ty H hfr hy hz⟩
    · cases hk'
  case copy =>
    have hk' : bCopy ts.toList args P lim h nx k = .ok v := hk
    unfold bCopy at hk'
    split at hk'
    · rename_i t u d s hts
      have hts := ts2 hts
      subst hts
      obtain ⟨a, h', nx', hk, hkeep, hf⟩ := copyK_ok hk'
      refine ⟨a, h', nx', hk, hkeep, fun p r w xs ty cs H hfr hx => ?_⟩
      obtain ⟨y, z, rfl, hy, hz⟩ := two hx
      exact ⟨Builtin.copy_ #[t, u] ty #[y, z], run_v _ w, hf p r w y z u ty H hy hz⟩
    · cases hk'
  case delete =>
    have hk' : bDelete ts.toList args P lim h nx k = .ok v := hk
    unfold bDelete at hk'
    split at hk'
    · rename_i t u d s hts
      have hts := ts2 hts
      subst hts
      obtain ⟨h', hk, hkeep, hf⟩ := deleteK_ok (P := P) hk'
      refine ⟨_, h', nx, hk, keeps_set hkeep, fun p r w xs ty cs H hfr hx => ?_⟩
      obtain ⟨y, z, rfl, hy, hz⟩ := two hx
      obtain ⟨w', w1, w2, w3⟩ := hf p r w y z u ty H hy hz
      exact ⟨Builtin.delete_ #[t, u] ty #[y, z], run_v _ w, r, _, w', w1, Ext.refl _ _ _, ⟨[], rfl, rfl⟩, w2, w3⟩
    · cases hk'
  case len =>
    have hk' : bLen ts.toList args P lim h nx k = .ok v := hk
    have hk2 := hk'
    unfold bLen at hk'
    split at hk'
    · rename_i t x hts
      rw [hts] at hk2
      have hts : ts = #[t] := by rw [← Array.toArray_toList (xs := ts), hts]
      subst hts
      obtain ⟨n, hk, hf⟩ := lenB_ok (args := []) hk2
      refine ⟨_, h, nx, hk, Keeps.refl _ _ _, fun p r w xs ty cs H hfr hx => ?_⟩
      obtain ⟨y, ys, rfl, hy, hys⟩ := hx
      cases hys
      exact ⟨Builtin.len_ #[t] ty #[y], run_v _ w, Res.pure (hf p r w y ty H hy) rfl H⟩
    · cases hk'
  case clear =>
    have hk' : bClear ts.toList args P lim h nx k = .ok v := hk
    unfold bClear at hk'
    split at hk'
    · rename_i t x hts
      have hts : ts = #[t] := by rw [← Array.toArray_toList (xs := ts), hts]
      subst hts
      obtain ⟨h', hk, hkeep, hf⟩ := clearK_ok (P := P) hk'
      refine ⟨_, h', nx, hk, keeps_set hkeep, fun p r w xs ty cs H hfr hx => ?_⟩
      obtain ⟨y, ys, rfl, hy, hys⟩ := hx
      cases hys
      obtain ⟨w', w1, w2, w3⟩ := hf p r w y ty H hy
      exact ⟨Builtin.clear_ #[t] ty #[y], run_v _ w, r, _, w', w1, Ext.refl _ _ _, ⟨[], rfl, rfl⟩, w2, w3⟩
    · cases hk'
  case unsafeSliceData =>
    have hk' : bSliceData ts.toList args P lim h nx k = .ok v := hk
    obtain ⟨a, hk, hf⟩ := sliceData_ok hk'
    exact ⟨a, h, nx, hk, Keeps.refl _ _ _, fun p r w xs ty cs H hfr hx => ⟨Builtin.unsafeSliceData_ ts ty xs.toArray, run_v _ w, hf p r w xs ts ty H hx⟩⟩
  case unsafeString =>
    have hk' : bString ts.toList args P lim h nx k = .ok v := hk
    obtain ⟨a, h', hk, hkeep, hf⟩ := ustring_ok hl hk'
    exact ⟨a, h', nx, hk, hkeep, fun p r w xs ty cs H hfr hx => ⟨Builtin.unsafeString_ ts ty xs.toArray, run_v _ w, hf p r w xs ty H hx⟩⟩
  case cap =>
    have hk' : bCap ts.toList args P lim h nx k = .ok v := hk
    unfold bCap at hk'
    split at hk'
    · rename_i t x hts
      have hts : ts = #[t] := by rw [← Array.toArray_toList (xs := ts), hts]
      subst hts
      split at hk'
      · rename_i e hu
        refine ⟨_, h, nx, hk', Keeps.refl _ _ _, fun p r w xs ty cs H hfr hx => ?_⟩
        obtain ⟨y, ys, rfl, hy, hys⟩ := hx
        cases hys
        cases hy
        exact ⟨Builtin.cap_ #[t] ty _, run_v _ w, Res.pure (z := .int .i64 0) (by simp [Builtin.cap_, run_underlying hu, goInt]) rfl H⟩
      · rename_i e id off l c hu
        refine ⟨_, h, nx, hk', Keeps.refl _ _ _, fun p r w xs ty cs H hfr hx => ?_⟩
        obtain ⟨y, ys, rfl, hy, hys⟩ := hx
        cases hys
        obtain ⟨Bk, O, K, hr, rfl⟩ := hy
        exact ⟨Builtin.cap_ #[t] ty _, run_v _ w, Res.pure (z := .int .i64 c) (by simp [Builtin.cap_, run_underlying hu, goInt]) rfl H⟩
      · cases hk'
    · cases hk'
  case min =>
    have hk' : bMin ts.toList args P lim h nx k = .ok v := hk
    unfold bMin at hk'
    split at hk'
    · rename_i x l
      obtain ⟨a, hk, hf⟩ := foldMinK_ok (P := P) hk'
      refine ⟨a, h, nx, hk, Keeps.refl _ _ _, fun p r w xs ty cs H hfr hx => ?_⟩
      obtain ⟨y, ys, rfl, hy, hys⟩ := hx
      obtain ⟨z, z1, z2⟩ := hf r ys y w hys hy
      exact ⟨Builtin.min_ ts ty (y :: ys).toArray, run_v _ w, Res.pure (by simpa [Builtin.min_] using z1) z2 H⟩
    · cases hk'
  case max =>
    have hk' : bMax ts.toList args P lim h nx k = .ok v := hk
    unfold bMax at hk'
    split at hk'
    · rename_i x l
      obtain ⟨a, hk, hf⟩ := foldMinK_ok (P := P) hk'
      refine ⟨a, h, nx, hk, Keeps.refl _ _ _, fun p r w xs ty cs H hfr hx => ?_⟩
      obtain ⟨y, ys, rfl, hy, hys⟩ := hx
      obtain ⟨z, z1, z2⟩ := hf r ys y w hys hy
      exact ⟨Builtin.max_ ts ty (y :: ys).toArray, run_v _ w, Res.pure (by simpa [Builtin.max_] using z1) z2 H⟩
    · cases hk'
  all_goals cases hk
end
end Clu
end Go.Proofs.Ythghohgjedjpbaa
