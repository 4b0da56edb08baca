/-
  Runs of closed calls by the kernel: calls, and all operations.
-/
import Derived.Test.YthghohgjedjpbaaCluR
namespace Go.Proofs.Ythghohgjedjpbaa
namespace Clu
open Go.RowKit
set_option linter.unusedVariables false
variable {P : Program}

theorem wp_of_call {p : Nat → Prop} {lim nx nx' : Nat} {r : Rn} {h' : T} {a : AV} {o : Oper} {act : Act} {w : World} {f : FuncId} {xs : List Value} {next : Act → World → Prop} {Q : Exit → Act → World → Prop}
    (he : (execOp act.eval o).run P w = (callFunc f xs.toArray).run P w) (hc : CallSem P f xs w (Left p lim r nx nx' h' a w) (LeftA p lim r nx nx' h' a w)) (hn : ∀ x w', Left p lim r nx nx' h' a w x w' → next (act.put o.dst x) w') (hq : ∀ c w', LeftA p lim r nx nx' h' a w c w' → Q (.panic c) act w') : o.wp P act w next Q := by
  unfold Oper.wp
  rw [he]
  unfold CallSem at hc
  split at hc
  · rename_i z w' e
    rw [e]
    exact hn _ _ hc
  · rename_i g ys w' e
    rw [e, Oper.upon_enter]
    exact Calls.mono hc fun e w'' he => by
      cases e with
      | returned z => exact hn _ _ he
      | panicked c => exact hq _ _ he
      | outgrown => exact he.elim
  · exact hc.elim
theorem methodK_ok {v : AV} {t : TypeId} {x : AV} {name : String} {k : FuncId → AV → Out} (hk : methodK P t x name k = .ok v) :
    ∃ f, k f x = .ok v ∧ ∀ D w vx, (method (D + 1) t vx name).run P w = .ok (f, vx) w := by
  unfold methodK at hk
  split at hk
  · rename_i i hi
    split at hk
    · rename_i m hm
      split at hk
      · rename_i f p hp hf
        have hp : m.path = #[] := by simpa using hp
        split at hk
        · rename_i e hu
          refine ⟨f, hk, fun D w vx => ?_⟩
          simp [method, typeInfo, hi, hm, hp, follow, hf, receiverAt, run_underlying hu, Place.get]
        · cases hk
        · rename_i d hn hu
          refine ⟨f, hk, fun D w vx => ?_⟩
          cases d <;> first | (simp [method, typeInfo, hi, hm, hp, follow, hf, receiverAt, run_underlying hu, Place.get]; done) | (exfalso; simp_all; done)
        · cases hk
      · cases hk
    · cases hk
  · cases hk
theorem call_ok {v : AV} {call : CallT} {lim : Nat} {h : T} {nx : Nat} {k : KV} {o : Oper} {fr : Fr} {f : FuncId} {args : List AV} (hcall : CallOK P call) (hl : Top lim h nx) (hk : call lim f args h nx k = .ok v)
    (he : ∀ r w (act : Act), Env r fr act.eval o.op.operands.toList → ∃ xs, VRs r args xs ∧ (execOp act.eval o).run P w = (callFunc f xs.toArray).run P w) :
    ∃ a h' nx', k a h' nx' = .ok v ∧ OpOK P lim o fr h nx a h' nx' := by
  obtain ⟨a, h', nx', hk, hkeep, hs⟩ := hcall _ _ _ _ _ _ _ hl hk
  refine ⟨a, h', nx', hk, hkeep, fun p r w act H hf henv next Q hn hq => ?_⟩
  obtain ⟨xs, h1, h2⟩ := he r w act henv
  exact wp_of_call h2 (hs p r w xs H hf h1) hn hq
section
variable {call : CallT} {lim : Nat} {fr : Fr} {h : T} {nx : Nat} {k : KV} {v : AV} {dst : Option Tmp} {ty : TypeId} {pos : String} {after : Array Edge} {guard : Option (Nat × Bool)}
theorem run_callMethod {t : TypeId} {name : String} {x : Value} {f : FuncId} {args : List Value} {w : World} (hm : ∀ D w, (method (D + 1) t x name).run P w = .ok (f, x) w) :
    (callMethod (.iface t x) name args.toArray).run P w = (callFunc f (x :: args).toArray).run P w := by
  have hd : P.types.size + Made.depth = (P.types.size + Made.depth - 1) + 1 := by
    have : 0 < Made.depth := by decide
    omega
  unfold callMethod
  simp only [Sem.run_bind, run_program, Result.andThen_ok]
  rw [hd, hm]
  simp
theorem ok_call {c : Call} (hcall : CallOK P call) (hl : Top lim h nx) (hk : oCall c P call lim fr h nx k = .ok v) : ∃ a h' nx', k a h' nx' = .ok v ∧ OpOK P lim ⟨dst, .call c, ty, pos, after, guard⟩ fr h nx a h' nx' := by
  obtain ⟨as, hk, hal, ha⟩ := opdsK_ok (show opdsK fr c.args.toList _ = .ok v from hk)
  obtain ⟨callee, args, ats⟩ := c
  have hx : ∀ r (act : Act), Env r fr act.eval (Op.call ⟨callee, args, ats⟩).operands.toList → VRs r as (args.toList.map act.eval) := fun r act he =>
    he.list (fun x hx => by simp only [Op.operands, Call.operands]; simp; exact .inr (by simpa using hx)) hal ha
  have hargs : ∀ act : Act, args.map act.eval = (args.toList.map act.eval).toArray := fun act => by apply Array.ext'; simp
  cases callee with
  | builtin b =>
    obtain ⟨a, h', nx', hk, hkeep, hf⟩ := builtinF_ok (ts := ats) hl.1 (show builtinF b ats.toList as P lim h nx k = .ok v from hk)
    refine res_ok hk hkeep fun p r w act H hfr he => ?_
    obtain ⟨s, h1, h2⟩ := hf p r w _ ty (args.map fun | .const _ => true | _ => false) H hfr (hx r act he)
    refine ⟨s, ?_, h2⟩
    rw [← h1]
    simp only [execOp, resolve, Sem.run_bind, Sem.run_pure, Result.andThen_ok, invoke, hargs]
    rfl
  | invoke x name =>
    have hk' : kInvoke x name as P call lim fr h nx k = .ok v := hk
    unfold kInvoke at hk'
    obtain ⟨b, hk', hb⟩ := opdK_ok hk'
    split at hk'
    · rename_i t y
      obtain ⟨f, hk', hm⟩ := methodK_ok hk'
      refine call_ok hcall hl hk' fun r w act he => ?_
      obtain ⟨z, hz1, hz2⟩ := he.one (x := x) (by simp [Op.operands, Call.operands]) hb
      refine ⟨z :: args.toList.map act.eval, ⟨z, _, rfl, hz2, hx r act he⟩, ?_⟩
      rw [← run_callMethod (fun D w => hm D w z)]
      simp only [execOp, resolve, Sem.run_bind, Sem.run_pure, Result.andThen_ok, invoke, hargs, hz1]
      simp
      rw [List.take_of_length_le (by simp)]
    · cases hk'
  | value x =>
    have hk' : kValue x as P call lim fr h nx k = .ok v := hk
    unfold kValue at hk'
    obtain ⟨b, hk', hb⟩ := opdK_ok hk'
    split at hk'
    · rename_i f first cap
      rw [appK_eq, appK_eq] at hk'
      refine call_ok hcall hl hk' fun r w act he => ?_
      obtain ⟨xs, ys, hz1, hz2, hz3⟩ := he.one (x := x) (by simp [Op.operands, Call.operands]) hb
      refine ⟨xs ++ (args.toList.map act.eval ++ ys), hz2.append ((hx r act he).append hz3), ?_⟩
      simp only [execOp, resolve, Sem.run_bind, Sem.run_pure, Result.andThen_ok, invoke, hargs, hz1, Deferred.ofValue]
      simp
    · rename_i name first cap
      rw [appK_eq] at hk'
      split at hk'
      · rename_i t y rest happ
        obtain ⟨f, hk', hm⟩ := methodK_ok hk'
        refine call_ok hcall hl hk' fun r w act he => ?_
        obtain ⟨xs, ys, hz1, hz2, hz3⟩ := he.one (x := x) (by simp [Op.operands, Call.operands]) hb
        have hall := hz2.append (hx r act he)
        rw [happ] at hall
        obtain ⟨z, zs, e, ⟨u, rfl, hu⟩, hzs⟩ := hall
        refine ⟨u :: zs, ⟨u, zs, rfl, hu, hzs⟩, ?_⟩
        rw [← run_callMethod (fun D w => hm D w u)]
        simp only [execOp, resolve, Sem.run_bind, Sem.run_pure, Result.andThen_ok, invoke, hargs, hz1, Deferred.ofValue]
        simp [e]
      · cases hk'
    · cases hk'
theorem ok_panic {x : Operand} (hk : oPanic x P call lim fr h nx k = .ok v) : ∃ a h' nx', k a h' nx' = .ok v ∧ OpOK P lim ⟨dst, .panic x, ty, pos, after, guard⟩ fr h nx a h' nx' := by
  obtain ⟨a, hk, ha⟩ := opdK_ok (show opdK fr x _ = .ok v from hk)
  split at hk
  · rename_i t y
    refine ⟨_, h, nx, hk, Keeps.refl _ _ _, fun p r w act H hf he next Q hn hq => ?_⟩
    obtain ⟨z, hz1, hz2⟩ := he.one (x := x) (by simp [Op.operands]) ha
    have e : (execOp act.eval ⟨dst, .panic x, ty, pos, after, guard⟩).run P w = .halt (.panic (.iface t z)) w := by
      show ((do pure (.value (← Instr.panic (act.eval x)))) : Sem Next).run P w = _
      rw [run_v, hz1]
      rfl
    unfold Oper.wp
    rw [e]
    exact hq _ w ⟨_, _, r, rfl, rfl, Ext.refl _ _ _, ⟨z, rfl, hz2⟩, H, Kp.refl _ _⟩
  · cases hk
theorem opK_ok {o : Oper} (hcall : CallOK P call) (hl : Top lim h nx) (hk : opK P call lim o fr h nx k = .ok v) : ∃ a h' nx', k a h' nx' = .ok v ∧ OpOK P lim o fr h nx a h' nx' := by
  obtain ⟨dst, op, ty, pos, after, guard⟩ := o
  cases op with
  | move x => exact ok_move (call := call) false hk
  | assign x => exact ok_move (call := call) true hk
  | pick c a b => exact ok_pick (call := call) hk
  | alloc t => exact ok_alloc (call := call) hl.1 hk
  | box t x => exact ok_box (call := call) hl.1 hk
  | build t ps => exact ok_build (call := call) hk
  | buildSlice t n ps => exact ok_buildSlice (call := call) hl.1 hk
  | insert t m i x => exact ok_mapUpdate (call := call) true hk
  | load t x => exact ok_load (call := call) hk
  | store t a x => exact ok_store (call := call) hk
  | nilCheck x => exact ok_nilCheck (call := call) hk
  | binOp op t x y yt => exact ok_bin (call := call) hk
  | unOp op t x => exact ok_un (call := call) hk
  | convert s d x => exact ok_convert (call := call) hl.1 hk
  | makeInterface t x => exact ok_makeInterface (call := call) hk
  | makeFunc f a c => exact ok_makeFunc (call := call) hk
  | makeMap t r => exact ok_makeMap (call := call) hl.1 hk
  | makeSlice t l c => exact ok_makeSlice (call := call) hl.1 hk
  | slice t x lo hi mx => exact ok_slice (call := call) hk
  | fieldAddr t x f => exact ok_fieldAddr (call := call) hk
  | field t x f => exact ok_field (call := call) hk
  | indexAddr t x i => exact ok_indexAddr (call := call) hk
  | index t x i => exact ok_index (call := call) hk
  | lookup t x i ok => exact ok_lookup (call := call) hk
  | mapUpdate t m i x => exact ok_mapUpdate (call := call) false hk
  | mapEntry t m i => exact ok_mapEntry (call := call) hk
  | entryStore t m i x => exact ok_entryStore (call := call) hk
  | range t x => exact ok_range (call := call) hl.1 hk
  | next x s => exact ok_next (call := call) hk
  | typeAssert x xt t ok => exact ok_typeAssert (call := call) hk
  | extract x n => exact ok_extract (call := call) hk
  | call c => exact ok_call (call := call) hcall hl hk
  | panic x => exact ok_panic (call := call) hk
  | _ => cases hk
end
end Clu
end Go.Proofs.Ythghohgjedjpbaa
