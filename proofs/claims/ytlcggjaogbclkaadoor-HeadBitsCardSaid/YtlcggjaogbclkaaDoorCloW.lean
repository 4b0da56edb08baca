/-
  Runs of closed calls by the kernel: bodies, calls, and what a run says.
-/
import Derived.Test.YtlcggjaogbclkaaDoorCloV
import Derived.Lib.Bytealg
import Derived.Laws.LoneSync
namespace Go.Proofs.YtlcggjaogbclkaaDoor
namespace Clo
open Go.RowKit
set_option linter.unusedVariables false
variable {P : Program}

def Ex.out : Ex → Exit
  | .nor => .normal
  | .exi id => .exit id
  | .ret => .ret
  | .got l => .goto l
def At (e : Ex) (N : Act → World → Prop) : Exit → Act → World → Prop := fun e' a w => e' = e.out ∧ N a w
/-- a loop, by rounds -/
def Lp (P : Program) (b : Code) (Q : Exit → Act → World → Prop) : Nat → Act → World → Prop
  | 0, _, _ => False
  | n + 1, a, w => b.wp P (Exit.then (Lp P b Q n) Q) a w
theorem Lp.wp {b : Code} {Q : Exit → Act → World → Prop} {n : Nat} {a : Act} {w : World} (h : Lp P b Q n a w) : (Code.loop b).wp P Q a w := by
  have hex : ∀ a w, (∃ n, Lp P b Q n a w) → ∃ m, Lp P b Q m a w ∧ ∀ k, Lp P b Q k a w → m ≤ k := fun a w ⟨n, hn⟩ => by
    induction n using Nat.strongRecOn with
    | _ n ih =>
      by_cases hm : ∃ k, k < n ∧ Lp P b Q k a w
      · obtain ⟨k, k1, k2⟩ := hm
        exact ih k k1 k2
      · exact ⟨n, hn, fun k hk => Nat.le_of_not_lt fun hlt => hm ⟨k, hlt, hk⟩⟩
  classical
  refine wp_loop (fun a w => ∃ n, Lp P b Q n a w) (fun a w => if h : ∃ n, Lp P b Q n a w then (hex a w h).choose else 0) ⟨n, h⟩ fun a w hI => ?_
  have hc := (hex a w hI).choose_spec
  rw [dif_pos hI]
  generalize (hex a w hI).choose = m at hc
  cases m with
  | zero => exact hc.1.elim
  | succ m =>
    refine wp_mono hc.1 fun e a' w' hq => ?_
    cases e with
    | normal =>
      have hq : Lp P b Q m a' w' := hq
      refine ⟨⟨m, hq⟩, ?_⟩
      rw [dif_pos ⟨m, hq⟩]
      have := (hex a' w' ⟨m, hq⟩).choose_spec.2 m hq
      omega
    | exit id => exact hq
    | goto l => exact hq
    | ret => exact hq
    | panic c => exact hq
    | outgrown => exact hq
def WP (P : Program) (n : Nat) (c : Code) (Q : Exit → Act → World → Prop) (a : Act) (w : World) : Prop := match c with
  | .loop b => Lp P b Q n a w
  | c => c.wp P Q a w
theorem WP.wp {n : Nat} {c : Code} {Q : Exit → Act → World → Prop} {a : Act} {w : World} (h : WP P n c Q a w) : c.wp P Q a w := by
  unfold WP at h
  split at h
  · exact Lp.wp h
  · exact h
theorem WP.mk {n : Nat} {c : Code} {Q : Exit → Act → World → Prop} {a : Act} {w : World} (hc : ∀ b, c ≠ .loop b) (h : c.wp P Q a w) : WP P n c Q a w := by
  unfold WP
  split
  · exact absurd rfl (hc _)
  · exact h
def JobOK (P : Program) (n : Nat) (rec : Job) : Prop := ∀ nt lim c fr h nx (k : KE) v, Top lim h nx → rec nt lim c fr h nx k = .ok v →
  ∃ e fr' h' nx', k e fr' h' nx' = .ok v ∧ RunOK nt lim fr h nx fr' h' nx' (fun N act w => WP P n c (At e N) act w)
theorem RunOK.mono {nt lim : Nat} {fr fr1 : Fr} {h h1 : T} {nx n1 : Nat} {W U : (Act → World → Prop) → Act → World → Prop} (a : RunOK nt lim fr h nx fr1 h1 n1 W) (hU : ∀ N act w, W N act w → U N act w) : RunOK nt lim fr h nx fr1 h1 n1 U :=
  ⟨a.1, fun p r w act H hf hfr N hN => hU _ _ _ (a.2 p r w act H hf hfr N hN)⟩
/-- regions whose order is drawn -/
def DrOK (P : Program) : Prop := ∀ (call : CallT) nt lim (ops : List Oper) fr h nx (k : KS) v id, CallOK P call → Top lim h nx → regionOk ops = true →
  drK P call nt lim ops 0 ops (masks ops) (barsL P ops) fr h h nx 0 [] k = .ok v →
  ∃ fr' h' nx', k fr' h' nx' = .ok v ∧ RunOK nt lim fr h nx fr' h' nx' (fun N act w => (Code.region id ops.toArray true).wp P (At .nor N) act w)

/-- results -/
def resV (tmps : Array Value) : ResultVar → Sem Value
  | .tmp t => pure (tmps.getD t undef)
  | .cell a t => do loadVar t (← asAddr (tmps.getD a undef))
theorem results_eq (fn : Func) (tmps : Array Value) : results fn tmps = (do
  let vs ← fn.results.toList.toArray.mapM (resV tmps)
  pure (if h : vs.size = 1 then vs[0] else .tuple vs)) := by
  rw [Array.toArray_toList]
  rfl
theorem resK_ok {v : AV} {fr : Fr} {h : T} : ∀ {l : List ResultVar} {k : List AV → Out}, resK P fr h l k = .ok v → ∃ as, k as = .ok v ∧ ∀ p lim nt r w act, HR p lim r h.get w → FR r nt fr act →
    ∃ xs, (l.mapM (resV act.tmps)).run P w = .ok xs w ∧ VRs r as xs
  | [], k, hk => ⟨[], hk, fun p lim nt r w act H hf => ⟨[], by simp, rfl⟩⟩
  | .tmp t :: l, k, hk => by
    obtain ⟨a, hk, ha⟩ := opdK_ok (show opdK fr (.tmp t) _ = .ok v from hk)
    obtain ⟨as, hk, hs⟩ := resK_ok hk
    refine ⟨a :: as, hk, fun p lim nt r w act H hf => ?_⟩
    obtain ⟨xs, h1, h2⟩ := hs p lim nt r w act H hf
    refine ⟨act.tmps.getD t undef :: xs, ?_, _, _, rfl, ?_, h2⟩
    · rw [List.mapM_cons]
      simp only [Sem.run_bind, resV, Sem.run_pure, Result.andThen_ok, h1]
    · have ha : a = (fr.get t).getD (.tu []) := ha
      rw [ha]; exact hf.tmp t
  | .cell c t :: l, k, hk => by
    obtain ⟨a, hk, ha⟩ := opdK_ok (show opdK fr (.tmp c) _ = .ok v from hk)
    obtain ⟨b, hk, hb⟩ := loadK_ok hk
    obtain ⟨as, hk, hs⟩ := resK_ok hk
    refine ⟨b :: as, hk, fun p lim nt r w act H hf => ?_⟩
    obtain ⟨xs, h1, h2⟩ := hs p lim nt r w act H hf
    have hv : VR r a (act.tmps.getD c undef) := by
      have ha : a = (fr.get c).getD (.tu []) := ha
      rw [ha]; exact hf.tmp c
    obtain ⟨z, z1, z2⟩ := hb p lim r w _ H hv
    have hz : (do loadVar t (← asAddr (act.tmps.getD c undef)) : Sem Value).run P w = .ok z w := by
      rw [← z1]
      unfold Instr.loadAt
      simp only [Sem.run_bind]
      revert z1
      unfold Instr.loadAt
      simp only [Sem.run_bind]
      generalize act.tmps.getD c undef = y
      intro z1
      cases y <;> first | rfl | (exfalso; simp [Instr.sureAddr] at z1; done) | skip
      rename_i o
      cases o <;> first | rfl | (exfalso; simp [Instr.sureAddr] at z1; done)
    refine ⟨z :: xs, ?_, _, _, rfl, z2, h2⟩
    rw [List.mapM_cons]
    simp only [Sem.run_bind, resV] at hz ⊢
    rw [hz]
    simp only [Result.andThen_ok, Sem.run_pure, h1]
theorem oneK_ok {v : AV} {l : List AV} {k : KO} (hk : oneK l k = .ok v) : ∃ a, k a = .ok v ∧ ∀ r (xs : List Value), VRs r l xs → VR r a (if h : xs.toArray.size = 1 then xs.toArray[0] else .tuple xs.toArray) := by
  unfold oneK at hk
  split at hk
  · rename_i a
    refine ⟨a, hk, fun r xs hx => ?_⟩
    obtain ⟨x, ys, rfl, h1, h2⟩ := hx
    cases h2
    simpa using h1
  · rename_i hne
    refine ⟨_, hk, fun r xs hx => ?_⟩
    have hl := hx.length
    rw [dif_neg]
    · exact ⟨xs, rfl, hx⟩
    · simp only [List.size_toArray]
      intro h1
      match l, hne, hl with
      | [a], hne, _ => exact hne a rfl
      | [], _, hl => rw [hl] at h1; simp at h1
      | _ :: _ :: _, _, hl => rw [hl] at h1; simp at h1
theorem argsK_ok {v : AV} : ∀ {l : List AV} {i : Nat} {fr : Fr} {k : Fr → Nat → Out}, argsK l i fr k = .ok v → ∃ fr', k fr' (i + l.length) = .ok v ∧ ∀ j, fr'.get j = if i ≤ j ∧ j < i + l.length then l[j - i]? else fr.get j
  | [], i, fr, k, hk => ⟨fr, hk, fun j => by rw [if_neg (by rintro ⟨h1, h2⟩; simp at h2; omega)]⟩
  | a :: l, i, fr, k, hk => by
    rw [argsK_cons] at hk
    obtain ⟨fr1, hk, e1⟩ := Tr.setK_ok hk
    rw [fN_eq] at hk
    obtain ⟨fr2, hk, e2⟩ := argsK_ok hk
    refine ⟨fr2, by simpa [Nat.add_assoc, Nat.add_comm 1] using hk, fun j => ?_⟩
    rw [e2, e1]
    by_cases hj : j = i
    · subst hj
      rw [if_neg (by rintro ⟨h1, h2⟩; omega), if_pos rfl, if_pos (by simp)]
      simp
    · by_cases h1 : i < j
      · by_cases h2 : j < i + (a :: l).length
        · rw [if_pos ⟨h1, by simp at h2 ⊢; omega⟩, if_pos ⟨by omega, h2⟩]
          have : j - i = (j - (i + 1)) + 1 := by omega
          rw [this, List.getElem?_cons_succ]
        · rw [if_neg (by rintro ⟨h3, h4⟩; simp at h2; omega), if_neg hj, if_neg (by rintro ⟨h3, h4⟩; exact h2 h4)]
      · rw [if_neg (by rintro ⟨h3, h4⟩; exact h1 h3), if_neg hj, if_neg (by omega)]
/-- no body stands for what counts goroutines -/
def Plain (P : Program) : Prop := ∀ (f : FuncId) fn c, P.funcs[f]? = some fn → fn.body = some c → (fn.name == "runtime.NumGoroutine") = false
theorem run_enter {f : FuncId} {fn : Func} {c : Code} (hp : Plain P) (hf : P.funcs[f]? = some fn) (hb : fn.body = some c) (args : Array Value) (w : World) : (callFunc f args).run P w = .ok (.enter f args) w := by
  have hn : ¬ fn.name = "runtime.NumGoroutine" := by simpa using hp f fn c hf hb
  simp [callFunc, hf, hb, hn]
theorem compare_eq : ∀ x y : List UInt8, Lib.compareBytes x y = if (x == y) = true then 0 else if Op.bytesLess x y = true then -1 else 1
  | [], [] => rfl
  | [], _ :: _ => by simp [Lib.compareBytes, Op.bytesLess]
  | _ :: _, [] => by simp [Lib.compareBytes, Op.bytesLess]
  | a :: l, b :: m => by
    rw [Lib.compareBytes, compare_eq l m]
    by_cases h1 : a < b
    · have hne : a ≠ b := fun e => by subst e; exact absurd h1 (by simp)
      simp [Op.bytesLess, h1, hne]
    · by_cases h2 : b < a
      · have hne : a ≠ b := fun e => by subst e; exact absurd h2 (by simp)
        simp [Op.bytesLess, h1, h2, hne]
      · have he : a = b := UInt8.toNat_inj.1 (by rw [UInt8.lt_iff_toNat_lt] at h1 h2; omega)
        subst he
        simp [Op.bytesLess]
theorem find_cmp {fn : Func} (hn : fn.name = "internal/bytealg.abigen_runtime_cmpstring") (ho : fn.origin = "") : Extern.findNext fn = none ∧ Extern.find fn = some Extern.BytealgCompare.compare := by
  constructor
  · unfold Extern.findNext
    rw [hn, ho]
    kernel_rfl
  · unfold Extern.find
    rw [hn, ho]
    kernel_rfl
theorem extK_ok {v : AV} {f : FuncId} {fn : Func} (hf : P.funcs[f]? = some fn) (hb : fn.body = none) {args : List AV} {k : KO} (hk : extK fn.name fn.origin args k = .ok v) :
    ∃ a, k a = .ok v ∧ ∀ r xs w, VRs r args xs → ∃ z, (callFunc f xs.toArray).run P w = .ok (.value z) w ∧ VR r a z := by
  unfold extK at hk
  split at hk
  · rename_i hc
    rw [Bool.and_eq_true, beq_iff_eq, beq_iff_eq] at hc
    obtain ⟨h1, h2⟩ := find_cmp hc.1 hc.2
    split at hk
    · rename_i a x b y
      have run : ∀ w, (callFunc f #[.string (bytes (lst a x)), .string (bytes (lst b y))]).run P w = .ok (.value (.int .i64 (Lib.compareBytes (bytes (lst a x)).data.toList (bytes (lst b y)).data.toList))) w := fun w => by
        rw [run_callFunc_extern hf (by rw [hc.1]; kernel_rfl) (by rw [hb]; rfl) h1 h2, Lib.run_compareString]
        rfl
      have fin : ∀ {n : Int}, k (.i .i64 n) = .ok v → Lib.compareBytes (bytes (lst a x)).data.toList (bytes (lst b y)).data.toList = n → ∃ a', k a' = .ok v ∧ ∀ r xs w, VRs r [.s a x, .s b y] xs → ∃ z, (callFunc f xs.toArray).run P w = .ok (.value z) w ∧ VR r a' z := fun {n} hk hn =>
        ⟨_, hk, fun r xs w hx => by
          obtain ⟨u, us, rfl, rfl, z, zs, rfl, rfl, rfl⟩ := hx
          exact ⟨_, run w, by rw [hn]; rfl⟩⟩
      rw [fB_eq] at hk
      have e1 : (bytes (lst a x)).data.toList = (lst a x).map UInt8.ofNat := by simp [bytes]
      have e2 : (bytes (lst b y)).data.toList = (lst b y).map UInt8.ofNat := by simp [bytes]
      split at hk
      · rename_i he
        rw [eqNs_spec] at he
        exact fin hk (by rw [compare_eq, e1, e2, if_pos he]; rfl)
      · rename_i he
        rw [eqNs_spec] at he
        rw [fB_eq] at hk
        unfold ltS at hk
        rw [ltNs_spec] at hk
        split at hk
        · rename_i hl
          exact fin hk (by rw [compare_eq, e1, e2, if_neg (by rw [he]; simp), if_pos hl]; rfl)
        · rename_i hl
          exact fin hk (by rw [compare_eq, e1, e2, if_neg (by rw [he]; simp), if_neg (by rw [hl]; simp)]; rfl)
    · cases hk
  · cases hk
/-- what stands for a function says what it does -/
def HandOK (P : Program) (f : FuncId) (c : HT) : Prop := ∀ lim args h nx (k : KV) v, Top lim h nx → c lim args h nx k = .ok v →
  ∃ a h' nx', k a h' nx' = .ok v ∧ Keeps lim h nx h' nx' ∧ ∀ p r w xs, HR p lim r h.get w → Free nx nx' r → VRs r args xs → CallSem P f xs w (Left p lim r nx nx' h' a w)
def XOK (P : Program) (X : XT) : Prop := ∀ f c, X f = some c → HandOK P f c
theorem noX_ok : XOK P noX := fun f c h => by cases h
theorem bodyK_ok {n : Nat} {rec : Job} (hp : Plain P) (hrec : JobOK P n rec) : CallOK P (bodyK P rec) := fun lim f args h nx k v hl hk => by
  unfold bodyK at hk
  rw [getL_eq, Array.getElem?_toList] at hk
  split at hk
  · rename_i fn hf
    split at hk
    · rename_i c hb
      obtain ⟨fr, hk, e⟩ := argsK_ok hk
      simp only [Nat.zero_add] at hk e
      split at hk
      · rename_i hn
        have hn := ble_iff.1 hn
        rw [fN_eq] at hk
        obtain ⟨ex, fr', h', nx', hk, hr⟩ := hrec _ _ _ _ _ _ _ _ hl hk
        have fin : ∀ {ex}, (ex = .nor ∨ ex = .ret) → (resK P fr' h' fn.results.toList fun l => oneK l fun v => k v h' nx') = .ok v → RunOK fn.ntmps lim fr h nx fr' h' nx' (fun N act w => WP P n c (At ex N) act w) →
            ∃ a h' nx', k a h' nx' = .ok v ∧ Keeps lim h nx h' nx' ∧ ∀ p r w xs, HR p lim r h.get w → Free nx nx' r → VRs r args xs → CallSem P f xs w (Left p lim r nx nx' h' a w) := fun {ex} hex hk hr => by
          obtain ⟨as, hk, hres⟩ := resK_ok hk
          obtain ⟨a, hk, hone⟩ := oneK_ok hk
          refine ⟨a, h', nx', hk, hr.1, fun p r w xs H hfree hx => ?_⟩
          unfold CallSem
          rw [run_enter hp hf hb]
          refine calls_of_wp hf hb ?_
          have hlen := hx.length
          have hfr : FR r fn.ntmps fr { tmps := xs.toArray ++ Array.replicate (fn.ntmps - xs.toArray.size) undef, defers := [] } := by
            refine ⟨by simp; omega, rfl, fun t => ?_⟩
            rw [e]
            by_cases ht : t < args.length
            · rw [if_pos ⟨Nat.zero_le _, ht⟩, Nat.sub_zero, List.getElem?_eq_getElem ht]
              obtain ⟨x, x1, x2⟩ := hx.get (List.getElem?_eq_getElem ht)
              have : (xs.toArray ++ Array.replicate (fn.ntmps - xs.toArray.size) undef).getD t undef = x := by
                rw [Array.getD_eq_getD_getElem?, Array.getElem?_append_left (by simp; omega)]
                simp [x1]
              rw [this]
              exact x2
            · rw [if_neg (by omega)]
              have h0 : (Tr.e : Fr).get t = none := Tr.get_e t
              rw [h0]
              have : (xs.toArray ++ Array.replicate (fn.ntmps - xs.toArray.size) undef).getD t undef = undef := by
                rw [Array.getD_eq_getD_getElem?, Array.getElem?_append_right (by simp; omega)]
                rw [Array.getElem?_replicate]
                split <;> rfl
              rw [this]
              exact ⟨[], rfl, rfl⟩
          refine wp_mono (hr.2 p r w _ H hfree hfr (fun act' w' => After p lim r nx nx' fn.ntmps fr' h' w act' w') (fun _ _ h => h)).wp fun ex' act' w' ⟨e1, r', x1, f1, H1, k1⟩ => ?_
          have hb : bodyPost P fn (fun | .returned z, w'' => Left p lim r nx nx' h' a w z w'' | _, _ => False) .normal act' w' := by
            obtain ⟨ys, y1, y2⟩ := hres p lim _ r' w' act' H1 f1
            refine ⟨f1.defers, _, ?_, r', x1, hone r' ys y2, H1, k1⟩
            rw [results_eq, List.mapM_toArray]
            simp only [Sem.run_bind, Sem.run_map, y1, Result.andThen_ok, Sem.run_pure]
          subst e1
          rcases hex with rfl | rfl
          · exact hb
          · exact hb
        split at hk
        · exact fin (.inl rfl) hk hr
        · exact fin (.inr rfl) hk hr
        · cases hk
        · cases hk
      · cases hk
    · rename_i hb
      obtain ⟨a, hk, hrun⟩ := extK_ok hf hb hk
      refine ⟨a, h, nx, hk, Keeps.refl _ _ _, fun p r w xs H hfree hx => ?_⟩
      obtain ⟨z, z1, z2⟩ := hrun r xs w hx
      unfold CallSem
      rw [z1]
      exact ⟨r, Ext.refl _ _ _, z2, H, Kp.refl _ _⟩
  · cases hk
theorem enterK_ok {n : Nat} {X : XT} {rec : Job} (hp : Plain P) (hX : XOK P X) (hrec : JobOK P n rec) : CallOK P (enterK P X rec) := fun lim f args h nx k v hl hk => by
  have hk' : @Option.rec _ (fun _ => Out) (bodyK P rec lim f args h nx k) (fun c => c lim args h nx k) (X f) = .ok v := hk
  cases hx : X f with
  | none => rw [hx] at hk'; exact bodyK_ok hp hrec lim f args h nx k v hl hk'
  | some c => rw [hx] at hk'; exact hX f c hx lim args h nx k v hl hk'
end Clo
end Go.Proofs.YtlcggjaogbclkaaDoor
