/-
  Texts as lists of bytes.
-/
import Derived.Test.YthghohgjedjpbaaCluH1
import Derived.Test.YthghohgjedjpbaaCluN1
namespace Go.Proofs.Ythghohgjedjpbaa
namespace Clu
open Go.RowKit
set_option linter.unusedVariables false
/-- bytes -/
def B8 (l : List Nat) : Prop := ∀ c ∈ l, c < 256
theorem B8.nil : B8 [] := fun c h => by cases h
theorem B8.cons {c : Nat} {l : List Nat} (h : c < 256) (k : B8 l) : B8 (c :: l) := fun d hd => by
  rcases List.mem_cons.1 hd with rfl | hd
  · exact h
  · exact k d hd
theorem B8.head {c : Nat} {l : List Nat} (h : B8 (c :: l)) : c < 256 := h c (List.mem_cons_self ..)
theorem B8.tail {c : Nat} {l : List Nat} (h : B8 (c :: l)) : B8 l := fun d hd => h d (List.mem_cons_of_mem _ hd)
theorem B8.app {l m : List Nat} (h : B8 l) (k : B8 m) : B8 (l ++ m) := fun c hc => (List.mem_append.1 hc).elim (h c) (k c)
theorem B8.left {l m : List Nat} (h : B8 (l ++ m)) : B8 l := fun c hc => h c (List.mem_append_left _ hc)
theorem B8.right {l m : List Nat} (h : B8 (l ++ m)) : B8 m := fun c hc => h c (List.mem_append_right _ hc)
theorem B8.take {l : List Nat} (n : Nat) (h : B8 l) : B8 (l.take n) := fun c hc => h c (List.mem_of_mem_take hc)
theorem B8.drop {l : List Nat} (n : Nat) (h : B8 l) : B8 (l.drop n) := fun c hc => h c (List.mem_of_mem_drop hc)
theorem B8.getD {l : List Nat} (h : B8 l) (i : Nat) : l.getD i 0 < 256 := by
  rw [List.getD_eq_getElem?_getD]
  cases hg : l[i]? with
  | none => decide
  | some c => exact h c (List.mem_of_getElem? hg)
theorem lst_b8 (n N : Nat) : B8 (lst n N) := fun c h => lst_lt h
theorem pk_nil : pk [] = 0 := rfl
theorem pk_cons (c : Nat) (l : List Nat) : pk (c :: l) = c % 256 + 256 * pk l := rfl
theorem lst_pk : ∀ {l : List Nat}, B8 l → lst l.length (pk l) = l
  | [], _ => rfl
  | c :: l, h => by
    have h1 := lst_cons c l.length (pk l) h.head
    rw [lst_pk h.tail] at h1
    have e : pk (c :: l) = Nat.add c (Nat.mul 256 (pk l)) := by
      rw [pk_cons, Nat.mod_eq_of_lt h.head]; rfl
    rw [List.length_cons, e]
    exact h1
theorem byteN_zero (i : Nat) : byteN 0 i = 0 := by
  show (0 >>> (8 * i)) % 256 = 0
  rw [Nat.zero_shiftRight]
theorem pk_drop1 (c : Nat) (l : List Nat) : Nat.shiftRight (pk (c :: l)) 8 = pk l := by
  show pk (c :: l) >>> 8 = _
  rw [Nat.shiftRight_eq_div_pow, pk_cons]
  omega
theorem pk_drop : ∀ (l : List Nat) (s : Nat), Nat.shiftRight (pk l) (8 * s) = pk (l.drop s)
  | l, 0 => rfl
  | [], s + 1 => by
    show 0 >>> _ = 0
    rw [Nat.zero_shiftRight]
  | c :: l, s + 1 => by
    show pk (c :: l) >>> (8 * (s + 1)) = _
    rw [show 8 * (s + 1) = 8 + 8 * s by omega, Nat.shiftRight_add]
    have h := pk_drop1 c l
    rw [show Nat.shiftRight (pk (c :: l)) 8 = pk (c :: l) >>> 8 from rfl] at h
    rw [h]
    exact pk_drop l s
theorem pk_take : ∀ (l : List Nat) (k : Nat), maskN k (pk l) = pk (l.take k)
  | l, 0 => by
    show pk l % 2 ^ (8 * 0) = 0
    rw [Nat.mul_zero, Nat.pow_zero, Nat.mod_one]
  | [], k + 1 => by
    show 0 % _ = 0
    exact Nat.zero_mod _
  | c :: l, k + 1 => by
    show pk (c :: l) % 2 ^ (8 * (k + 1)) = pk (c :: l.take k)
    rw [pk_cons, pk_cons, ← pk_take l k]
    have e : 2 ^ (8 * (k + 1)) = 256 * 2 ^ (8 * k) := by rw [Nat.mul_add, Nat.pow_add, Nat.mul_comm]
    show _ = c % 256 + 256 * (pk l % 2 ^ (8 * k))
    rw [e, Nat.mod_mul]
    have h1 : (c % 256 + 256 * pk l) % 256 = c % 256 := by omega
    have h2 : (c % 256 + 256 * pk l) / 256 = pk l := by omega
    rw [h1, h2]
/-- a part of a text -/
theorem pk_part (l : List Nat) (s k : Nat) : maskN k (Nat.shiftRight (pk l) (8 * s)) = pk ((l.drop s).take k) := by rw [pk_drop, pk_take]
theorem byteN_pk {l : List Nat} (h : B8 l) (i : Nat) : byteN (pk l) i = l.getD i 0 := by
  show Nat.mod (Nat.shiftRight (pk l) (8 * i)) 256 = _
  rw [pk_drop, List.getD_eq_getElem?_getD]
  cases hd : l.drop i with
  | nil =>
    rw [List.getElem?_eq_none (by simpa using hd)]
    rfl
  | cons c m =>
    have e : l[i]? = some c := by
      have := congrArg (·[0]?) hd
      simpa using this
    rw [e, pk_cons]
    have := h c (List.mem_of_getElem? e)
    show (c % 256 + 256 * pk m) % 256 = c
    omega
theorem pk_inj {l m : List Nat} (h : B8 l) (k : B8 m) (hl : l.length = m.length) (e : pk l = pk m) : l = m := by
  rw [← lst_pk h, ← lst_pk k, hl, e]
theorem eqNs_iff {l m : List Nat} (h : B8 l) (k : B8 m) : eqNs l.length (pk l) m.length (pk m) = decide (l = m) := by
  by_cases hl : l.length = m.length
  · by_cases e : l = m
    · subst e
      rw [eqNs_same, decide_eq_true rfl]
    · rw [decide_eq_false e]
      show @Bool.rec (fun _ => Bool) false (Nat.beq (maskN l.length (pk l)) (maskN m.length (pk m))) (Nat.beq l.length m.length) = false
      rw [pk_take, pk_take, List.take_length, List.take_length, beq_iff.2 hl]
      exact beq_f fun q => e (pk_inj h k hl q)
  · rw [decide_eq_false (fun q => hl (by rw [q]))]
    show @Bool.rec (fun _ => Bool) false _ (Nat.beq l.length m.length) = false
    rw [beq_f hl]
/-- cells that hold bytes -/
def U8 (l : List Nat) : List AV := l.map fun c => .i .u8 (.ofNat c)
theorem U8_length (l : List Nat) : (U8 l).length = l.length := by unfold U8; rw [List.length_map]
theorem U8_take (l : List Nat) (k : Nat) : (U8 l).take k = U8 (l.take k) := by unfold U8; rw [List.map_take]
theorem U8_drop (l : List Nat) (k : Nat) : (U8 l).drop k = U8 (l.drop k) := by unfold U8; rw [List.map_drop]
theorem U8_app (l m : List Nat) : U8 (l ++ m) = U8 l ++ U8 m := by unfold U8; rw [List.map_append]
theorem U8_und (n : Nat) (l : List Nat) : AV.unds n (U8 l) = true := unds_map fun _ => rfl
theorem U8_all (l : List Nat) : (U8 l).all isU8 = true := by
  unfold U8
  rw [List.all_map]
  exact List.all_eq_true.2 fun c _ => rfl
theorem U8_num (l : List Nat) : (U8 l).map u8N = l := by
  unfold U8
  rw [List.map_map]
  exact List.map_id l
theorem U8_allOne : ∀ l : List Nat, allOne (U8 l) = true
  | [] => rfl
  | c :: l => U8_allOne l
theorem getL_some {α : Type} : ∀ (l : List α) (i : Nat), getL l i = l[i]?
  | [], _ => rfl
  | a :: l, 0 => rfl
  | a :: l, i + 1 => by rw [getL_succ, getL_some l i]; rfl
theorem U8_get {l : List Nat} {i : Nat} (h : i < l.length) : getL (U8 l) i = some (.i .u8 (.ofNat (l.getD i 0))) := by
  rw [getL_some]
  unfold U8
  rw [List.getElem?_map, List.getD_eq_getElem?_getD, List.getElem?_eq_getElem h]
  rfl
theorem U8_isU {l : List Nat} {i : Nat} (h : i < l.length) : isU .u8 (getL (U8 l) i) = true := by rw [U8_get h]; rfl
theorem U8_iN {l : List Nat} {i : Nat} (h : i < l.length) : iN (getL (U8 l) i) = l.getD i 0 := by rw [U8_get h]; rfl
/-- a text's bytes, as cells -/
theorem U8_lst (n N : Nat) : (List.range n).map (fun i => AV.i .u8 (.ofNat (byteN N i))) ++ [] = U8 (lst n N) := by
  rw [List.append_nil]
  unfold U8 lst
  rw [List.map_map]
  rfl
theorem U8_pk {l : List Nat} (h : B8 l) : (List.range l.length).map (fun i => AV.i .u8 (.ofNat (byteN (pk l) i))) ++ [] = U8 l := by rw [U8_lst, lst_pk h]
theorem U8_splice {l : List Nat} {o c : Nat} (h : o < l.length) : splice (U8 l) o [.i .u8 (.ofNat c)] = U8 (l.set o c) := by
  unfold splice
  rw [U8_take, U8_drop, show ([AV.i .u8 (.ofNat c)] : List AV) = U8 [c] from rfl, ← U8_app, ← U8_app]
  congr 1
  rw [List.set_eq_take_append_cons_drop, if_pos h]
  simp [U8_length]
/-- two texts are the same values -/
theorem VR.lst {r : Rn} {n N : Nat} {v : Value} : VR r (.s n N) v ↔ VR r (.s (lst n N).length (pk (lst n N))) v := by
  show v = _ ↔ v = _
  rw [lst_pk (lst_b8 n N)]
/-- what is true of a call, of other values that stand for the same -/
theorem Fact.of {P : Program} {f : FuncId} {lays : List (Nat × List AV)} {args args' : List AV} {v : AV} (h : Fact P f lays args' v) (hf : AV.flts args = true) (e : ∀ r xs, VRs r args xs → VRs r args' xs) : Fact P f lays args v :=
  ⟨hf, h.2.1, fun w hl xs hx => h.2.2 w hl xs (e _ _ hx)⟩
theorem Fact.s1 {P : Program} {f : FuncId} {lays : List (Nat × List AV)} {n N : Nat} {v : AV} (h : Fact P f lays [.s (lst n N).length (pk (lst n N))] v) : Fact P f lays [.s n N] v :=
  h.of rfl fun r xs ⟨x, ys, h1, h2, h3⟩ => ⟨x, ys, h1, VR.lst.1 h2, h3⟩
theorem Fact.s2 {P : Program} {f : FuncId} {lays : List (Nat × List AV)} {n N m M : Nat} {v : AV} (h : Fact P f lays [.s (lst n N).length (pk (lst n N)), .s (lst m M).length (pk (lst m M))] v) : Fact P f lays [.s n N, .s m M] v :=
  h.of rfl fun r xs ⟨x, ys, h1, h2, y, zs, h3, h4, h5⟩ => ⟨x, ys, h1, VR.lst.1 h2, y, zs, h3, VR.lst.1 h4, h5⟩
theorem iEq_dec (a b : Int) : iEq a b = decide (a = b) := by
  rw [iEq_eq]
  by_cases h : a = b
  · subst h; simp
  · simp [h]
theorem str_list (s : ByteArray) : ∃ l : List Nat, B8 l ∧ l.length = s.size ∧ ∀ r, VR r (.s l.length (pk l)) (.string s) := by
  obtain ⟨N, h⟩ := str_of s
  exact ⟨lst s.size N, lst_b8 _ _, lst_length _ _, fun r => VR.lst.1 (h r)⟩
/-- what is true of a call that comes to a truth -/
theorem calls_fact {P : Program} (hp : Plain P) {f : FuncId} {fn : Func} {c : Code} {b : Bool} (hf : P.funcs[f]? = some fn) (hb : fn.body = some c) {lays : List (Nat × List AV)} {args : List AV} {xs : List Value} (F : Fact P f lays args (.b b)) (hx : VRs r0 args xs) {w : World} (hl : ∀ g cs, (g, cs) ∈ lays → g < 1000 ∧ LaidAt w g cs) :
    Calls P f xs.toArray w fun e w' => e = .returned (.bool b) ∧ Below w.heap.size w w' := by
  have := F.2.2 w hl xs hx
  unfold CallSem at this
  rw [run_enter hp hf hb] at this
  refine Calls.mono this fun e w' he => ?_
  cases e with
  | returned z =>
    obtain ⟨h1, h2⟩ := he
    have h1 : z = .bool b := h1
    exact ⟨by rw [h1], h2⟩
  | panicked c => exact he.elim
  | outgrown => exact he.elim
end Clu
end Go.Proofs.Ythghohgjedjpbaa
