/-
  Runs of closed calls by the kernel: bodies, calls, and what a run says.
-/
import Derived.Test.YthghohgjedjpbaaCluV
import Derived.Lib.Bytealg
import Derived.Recover
import Derived.Orders
import Derived.Laws.LoneSync
namespace Go.Proofs.Ythghohgjedjpbaa
namespace Clu
open Go.RowKit
set_option linter.unusedVariables false
variable {P : Program}

def Ex.out : Ex → Exit
  | .nor => .normal
  | .exi id => .exit id
  | .ret => .ret
  | .got l => .goto l
  | .pan _ _ => .outgrown
def At (e : Ex) (N : Act → World → Prop) : Exit → Act → World → Prop := fun e' a w => e' = e.out ∧ N a w
/-- a loop, by rounds -/
def Lp (P : Program) (b : Code) (Q : Exit → Act → World → Prop) : Nat → Act → World → Prop
  | 0, _, _ => False
  | n + 1, a, w => b.wp P (Exit.then (Lp P b Q n) Q) a w
theorem Lp.wp {b : Code} {Q : Exit → Act → World → Prop} {n : Nat} {a : Act} {w : World} (h : Lp P b Q n a w) : (Code.loop b).wp P Q a w := by
  have hex : ∀ a w, (∃ n, Lp P b Q n a w) → ∃ m, Lp P b Q m a w ∧ ∀ k, Lp P b Q k a w → m ≤ k := fun a w ⟨n, hn⟩ => by
    induction n using Nat.strongRecOn with
    | _ n ih =>
      by_cases hm : ∃ k, k < n ∧ Lp P b Q k a w
      · obtain ⟨k, k1, k2⟩ := hm
        exact ih k k1 k2
      · exact ⟨n, hn, fun k hk => Nat.le_of_not_lt fun hlt => hm ⟨k, hlt, hk⟩⟩
  classical
  refine wp_loop (fun a w => ∃ n, Lp P b Q n a w) (fun a w => if h : ∃ n, Lp P b Q n a w then (hex a w h).choose else 0) ⟨n, h⟩ fun a w hI => ?_
  have hc := (hex a w hI).choose_spec
  rw [dif_pos hI]
  generalize (hex a w hI).choose = m at hc
  cases m with
  | zero => exact hc.1.elim
  | succ m =>
    refine wp_mono hc.1 fun e a' w' hq => ?_
    cases e with
    | normal =>
      have hq : Lp P b Q m a' w' := hq
      refine ⟨⟨m, hq⟩, ?_⟩
      rw [dif_pos ⟨m, hq⟩]
      have := (hex a' w' ⟨m, hq⟩).choose_spec.2 m hq
      omega
    | exit id => exact hq
    | goto l => exact hq
    | ret => exact hq
    | panic c => exact hq
    | outgrown => exact hq
def WP (P : Program) (n : Nat) (c : Code) (Q : Exit → Act → World → Prop) (a : Act) (w : World) : Prop := match c with
  | .loop b => Lp P b Q n a w
  | c => c.wp P Q a w
theorem WP.wp {n : Nat} {c : Code} {Q : Exit → Act → World → Prop} {a : Act} {w : World} (h : WP P n c Q a w) : c.wp P Q a w := by
  unfold WP at h
  split at h
  · exact Lp.wp h
  · exact h
theorem WP.mk {n : Nat} {c : Code} {Q : Exit → Act → World → Prop} {a : Act} {w : World} (hc : ∀ b, c ≠ .loop b) (h : c.wp P Q a w) : WP P n c Q a w := by
  unfold WP
  split
  · exact absurd rfl (hc _)
  · exact h
/-- a run that ends so -/
def RunE (P : Program) (n : Nat) (c : Code) (nt lim : Nat) (fr : Fr) (h : T) (nx : Nat) (e : Ex) (fr' : Fr) (h' : T) (nx' : Nat) : Prop := match e with
  | .pan x b => RunP nt lim fr h nx x b fr' h' nx' (fun D N act w => WP P n c (AtP D N) act w)
  | e => RunOK nt lim fr h nx fr' h' nx' (fun N act w => WP P n c (At e N) act w)
def JobOK (P : Program) (n : Nat) (rec : Job) : Prop := ∀ nt lim c fr h nx (k : KE) v, Top lim h nx → rec nt lim c fr h nx k = .ok v →
  ∃ e fr' h' nx', k e fr' h' nx' = .ok v ∧ RunE P n c nt lim fr h nx e fr' h' nx'
theorem RunE.keeps {n : Nat} {c : Code} {nt lim : Nat} {fr fr' : Fr} {h h' : T} {nx nx' : Nat} {e : Ex} (a : RunE P n c nt lim fr h nx e fr' h' nx') : Keeps lim h nx h' nx' := by
  cases e <;> exact a.1
theorem RunOK.mono {nt lim : Nat} {fr fr1 : Fr} {h h1 : T} {nx n1 : Nat} {W U : (Act → World → Prop) → Act → World → Prop} (a : RunOK nt lim fr h nx fr1 h1 n1 W) (hU : ∀ N act w, W N act w → U N act w) : RunOK nt lim fr h nx fr1 h1 n1 U :=
  ⟨a.1, fun p r w act D H hf hfr N hN => hU _ _ _ (a.2 p r w act D H hf hfr N hN)⟩
/-- regions whose order is drawn -/
def DrOK (P : Program) : Prop := ∀ (call : CallT) nt lim (kp : KP) (ops : List Oper) fr h nx (k : KS) v id, CallOK P call → Top lim h nx →
  drawK P call nt lim kp ops fr h nx k = .ok v →
  (∃ fr' h' nx', k fr' h' nx' = .ok v ∧ RunOK nt lim fr h nx fr' h' nx' (fun N act w => (Code.region id ops.toArray true).wp P (At .nor N) act w)) ∨
  ∃ x b fr' h' nx', kp x b fr' h' nx' = .ok v ∧ RunP nt lim fr h nx x b fr' h' nx' (fun D N act w => (Code.region id ops.toArray true).wp P (AtP D N) act w)

/-- results -/
def resV (tmps : Array Value) : ResultVar → Sem Value
  | .tmp t => pure (tmps.getD t undef)
  | .cell a t => do loadVar t (← asAddr (tmps.getD a undef))
theorem results_eq (fn : Func) (tmps : Array Value) : results fn tmps = (do
  let vs ← fn.results.toList.toArray.mapM (resV tmps)
  pure (if h : vs.size = 1 then vs[0] else .tuple vs)) := by
  rw [Array.toArray_toList]
  rfl
def resT : ResultVar → Tmp
  | .tmp t => t
  | .cell t _ => t
theorem resK_ok {v : AV} {fr : Fr} {h : T} : ∀ {l : List ResultVar} {k : List AV → Out}, resK P fr h l k = .ok v → ∃ as, k as = .ok v ∧ ∀ p lim r w (act : Act), HR p lim r h.get w → (∀ x, x ∈ l → VR r ((fr.get (resT x)).getD (.tu [])) (act.tmps.getD (resT x) undef)) →
    ∃ xs, (l.mapM (resV act.tmps)).run P w = .ok xs w ∧ VRs r as xs
  | [], k, hk => ⟨[], hk, fun p lim r w act H hf => ⟨[], by simp, rfl⟩⟩
  | .tmp t :: l, k, hk => by
    obtain ⟨a, hk, ha⟩ := opdK_ok (show opdK fr (.tmp t) _ = .ok v from hk)
    obtain ⟨as, hk, hs⟩ := resK_ok hk
    refine ⟨a :: as, hk, fun p lim r w act H hf => ?_⟩
    obtain ⟨xs, h1, h2⟩ := hs p lim r w act H fun x hx => hf x (List.mem_cons_of_mem _ hx)
    refine ⟨act.tmps.getD t undef :: xs, ?_, _, _, rfl, ?_, h2⟩
    · rw [List.mapM_cons]
      simp only [Sem.run_bind, resV, Sem.run_pure, Result.andThen_ok, h1]
    · have ha : a = (fr.get t).getD (.tu []) := ha
      rw [ha]; exact hf (.tmp t) (by simp)
  | .cell c t :: l, k, hk => by
    obtain ⟨a, hk, ha⟩ := opdK_ok (show opdK fr (.tmp c) _ = .ok v from hk)
    obtain ⟨b, hk, hb⟩ := loadK_ok hk
    obtain ⟨as, hk, hs⟩ := resK_ok hk
    refine ⟨b :: as, hk, fun p lim r w act H hf => ?_⟩
    obtain ⟨xs, h1, h2⟩ := hs p lim r w act H fun x hx => hf x (List.mem_cons_of_mem _ hx)
    have hv : VR r a (act.tmps.getD c undef) := by
      have ha : a = (fr.get c).getD (.tu []) := ha
      rw [ha]; exact hf (.cell c t) (by simp)
    obtain ⟨z, z1, z2⟩ := hb p lim r w _ H hv
    have hz : (do loadVar t (← asAddr (act.tmps.getD c undef)) : Sem Value).run P w = .ok z w := by
      rw [← z1]
      unfold Instr.loadAt
      simp only [Sem.run_bind]
      revert z1
      unfold Instr.loadAt
      simp only [Sem.run_bind]
      generalize act.tmps.getD c undef = y
      intro z1
      cases y <;> first | rfl | (exfalso; simp [Instr.sureAddr] at z1; done) | skip
      rename_i o
      cases o <;> first | rfl | (exfalso; simp [Instr.sureAddr] at z1; done)
    refine ⟨z :: xs, ?_, _, _, rfl, z2, h2⟩
    rw [List.mapM_cons]
    simp only [Sem.run_bind, resV] at hz ⊢
    rw [hz]
    simp only [Result.andThen_ok, Sem.run_pure, h1]
theorem oneK_ok {v : AV} {l : List AV} {k : KO} (hk : oneK l k = .ok v) : ∃ a, k a = .ok v ∧ ∀ r (xs : List Value), VRs r l xs → VR r a (if h : xs.toArray.size = 1 then xs.toArray[0] else .tuple xs.toArray) := by
  unfold oneK at hk
  split at hk
  · rename_i a
    refine ⟨a, hk, fun r xs hx => ?_⟩
    obtain ⟨x, ys, rfl, h1, h2⟩ := hx
    cases h2
    simpa using h1
  · rename_i hne
    refine ⟨_, hk, fun r xs hx => ?_⟩
    have hl := hx.length
    rw [dif_neg]
    · exact ⟨xs, rfl, hx⟩
    · simp only [List.size_toArray]
      intro h1
      match l, hne, hl with
      | [a], hne, _ => exact hne a rfl
      | [], _, hl => rw [hl] at h1; simp at h1
      | _ :: _ :: _, _, hl => rw [hl] at h1; simp at h1
theorem argsK_ok {v : AV} : ∀ {l : List AV} {i : Nat} {fr : Fr} {k : Fr → Nat → Out}, argsK l i fr k = .ok v → ∃ fr', k fr' (i + l.length) = .ok v ∧ ∀ j, fr'.get j = if i ≤ j ∧ j < i + l.length then l[j - i]? else fr.get j
  | [], i, fr, k, hk => ⟨fr, hk, fun j => by rw [if_neg (by rintro ⟨h1, h2⟩; simp at h2; omega)]⟩
  | a :: l, i, fr, k, hk => by
    rw [argsK_cons] at hk
    obtain ⟨fr1, hk, e1⟩ := Tr.setK_ok hk
    rw [fN_eq] at hk
    obtain ⟨fr2, hk, e2⟩ := argsK_ok hk
    refine ⟨fr2, by simpa [Nat.add_assoc, Nat.add_comm 1] using hk, fun j => ?_⟩
    rw [e2, e1]
    by_cases hj : j = i
    · subst hj
      rw [if_neg (by rintro ⟨h1, h2⟩; omega), if_pos rfl, if_pos (by simp)]
      simp
    · by_cases h1 : i < j
      · by_cases h2 : j < i + (a :: l).length
        · rw [if_pos ⟨h1, by simp at h2 ⊢; omega⟩, if_pos ⟨by omega, h2⟩]
          have : j - i = (j - (i + 1)) + 1 := by omega
          rw [this, List.getElem?_cons_succ]
        · rw [if_neg (by rintro ⟨h3, h4⟩; simp at h2; omega), if_neg hj, if_neg (by rintro ⟨h3, h4⟩; exact h2 h4)]
      · rw [if_neg (by rintro ⟨h3, h4⟩; exact h1 h3), if_neg hj, if_neg (by omega)]
/-- no body stands for what counts goroutines -/
def Plain (P : Program) : Prop := ∀ (f : FuncId) fn c, P.funcs[f]? = some fn → fn.body = some c → (fn.name == "runtime.NumGoroutine") = false
theorem run_enter {f : FuncId} {fn : Func} {c : Code} (hp : Plain P) (hf : P.funcs[f]? = some fn) (hb : fn.body = some c) (args : Array Value) (w : World) : (callFunc f args).run P w = .ok (.enter f args) w := by
  have hn : ¬ fn.name = "runtime.NumGoroutine" := by simpa using hp f fn c hf hb
  simp [callFunc, hf, hb, hn]
theorem compare_eq : ∀ x y : List UInt8, Lib.compareBytes x y = if (x == y) = true then 0 else if Op.bytesLess x y = true then -1 else 1
  | [], [] => rfl
  | [], _ :: _ => by simp [Lib.compareBytes, Op.bytesLess]
  | _ :: _, [] => by simp [Lib.compareBytes, Op.bytesLess]
  | a :: l, b :: m => by
    rw [Lib.compareBytes, compare_eq l m]
    by_cases h1 : a < b
    · have hne : a ≠ b := fun e => by subst e; exact absurd h1 (by simp)
      simp [Op.bytesLess, h1, hne]
    · by_cases h2 : b < a
      · have hne : a ≠ b := fun e => by subst e; exact absurd h2 (by simp)
        simp [Op.bytesLess, h1, h2, hne]
      · have he : a = b := UInt8.toNat_inj.1 (by rw [UInt8.lt_iff_toNat_lt] at h1 h2; omega)
        subst he
        simp [Op.bytesLess]
theorem find_cmp {fn : Func} (hn : fn.name = "internal/bytealg.abigen_runtime_cmpstring") (ho : fn.origin = "") : Extern.findNext fn = none ∧ Extern.find fn = some Extern.BytealgCompare.compare := by
  constructor
  · unfold Extern.findNext
    rw [hn, ho]
    kernel_rfl
  · unfold Extern.find
    rw [hn, ho]
    kernel_rfl
theorem find_esc {fn : Func} (hn : fn.name = "internal/abi.NoEscape") (ho : fn.origin = "") : Extern.findNext fn = none ∧ Extern.find fn = some Extern.AbiNoEscape.same := by
  constructor
  · unfold Extern.findNext
    rw [hn, ho]
    kernel_rfl
  · unfold Extern.find
    rw [hn, ho]
    kernel_rfl
theorem extK_ok {v : AV} {f : FuncId} {fn : Func} (hf : P.funcs[f]? = some fn) (hb : fn.body = none) {args : List AV} {k : KO} (hk : extK fn.name fn.origin args k = .ok v) :
    ∃ a, k a = .ok v ∧ ∀ r xs w, VRs r args xs → ∃ z, (callFunc f xs.toArray).run P w = .ok (.value z) w ∧ VR r a z := by
  unfold extK at hk
  split at hk
  · rename_i hc
    rw [Bool.and_eq_true, beq_iff_eq, beq_iff_eq] at hc
    obtain ⟨h1, h2⟩ := find_cmp hc.1 hc.2
    split at hk
    · rename_i a x b y
      have run : ∀ w, (callFunc f #[.string (bytes (lst a x)), .string (bytes (lst b y))]).run P w = .ok (.value (.int .i64 (Lib.compareBytes (bytes (lst a x)).data.toList (bytes (lst b y)).data.toList))) w := fun w => by
        rw [run_callFunc_extern hf (by rw [hc.1]; kernel_rfl) (by rw [hb]; rfl) h1 h2, Lib.run_compareString]
        rfl
      have fin : ∀ {n : Int}, k (.i .i64 n) = .ok v → Lib.compareBytes (bytes (lst a x)).data.toList (bytes (lst b y)).data.toList = n → ∃ a', k a' = .ok v ∧ ∀ r xs w, VRs r [.s a x, .s b y] xs → ∃ z, (callFunc f xs.toArray).run P w = .ok (.value z) w ∧ VR r a' z := fun {n} hk hn =>
        ⟨_, hk, fun r xs w hx => by
          obtain ⟨u, us, rfl, rfl, z, zs, rfl, rfl, rfl⟩ := hx
          exact ⟨_, run w, by rw [hn]; rfl⟩⟩
      rw [fB_eq] at hk
      have e1 : (bytes (lst a x)).data.toList = (lst a x).map UInt8.ofNat := by simp [bytes]
      have e2 : (bytes (lst b y)).data.toList = (lst b y).map UInt8.ofNat := by simp [bytes]
      split at hk
      · rename_i he
        rw [eqNs_spec] at he
        exact fin hk (by rw [compare_eq, e1, e2, if_pos he]; rfl)
      · rename_i he
        rw [eqNs_spec] at he
        rw [fB_eq] at hk
        unfold ltS at hk
        rw [ltNs_spec] at hk
        split at hk
        · rename_i hl
          exact fin hk (by rw [compare_eq, e1, e2, if_neg (by rw [he]; simp), if_pos hl]; rfl)
        · rename_i hl
          exact fin hk (by rw [compare_eq, e1, e2, if_neg (by rw [he]; simp), if_neg (by rw [hl]; simp)]; rfl)
    · cases hk
  · split at hk
    · rename_i hc
      rw [Bool.and_eq_true, beq_iff_eq, beq_iff_eq] at hc
      obtain ⟨h1, h2⟩ := find_esc hc.1 hc.2
      split at hk
      · rename_i a
        refine ⟨a, hk, fun r xs w hx => ?_⟩
        obtain ⟨u, us, rfl, hu, rfl⟩ := hx
        refine ⟨u, ?_, hu⟩
        rw [run_callFunc_extern hf (by rw [hc.1]; kernel_rfl) (by rw [hb]; rfl) h1 h2]
        rfl
      · cases hk
    · cases hk
/-- what stands for a function says what it does -/
def HandOK (P : Program) (f : FuncId) (c : HT) : Prop := ∀ lim args h nx (k : KV) v, Top lim h nx → c lim args h nx k = .ok v →
  ∃ a h' nx', k a h' nx' = .ok v ∧ Keeps lim h nx h' nx' ∧ ∀ p r w xs, HR p lim r h.get w → Free nx nx' r → VRs r args xs → CallSem P f xs w (Left p lim r nx nx' h' a w) noP
def XOK (P : Program) (X : XT) : Prop := ∀ f c, X f = some c → HandOK P f c
theorem noX_ok : XOK P noX := fun f c h => by cases h
theorem frame_of {args : List AV} {fr o : Fr} {nt : Nat} (hn : args.length ≤ nt) (e : ∀ j, fr.get j = if 0 ≤ j ∧ j < args.length then args[j - 0]? else o.get j) (ho : ∀ j, (o.get j).getD (.tu []) = .tu []) {r : Rn} {xs : List Value} (hx : VRs r args xs) : FR [] r nt fr { tmps := xs.toArray ++ Array.replicate (nt - xs.toArray.size) undef, defers := [] } := by
  have hlen := hx.length
  refine ⟨by simp; omega, rfl, fun t => ?_⟩
  rw [e]
  by_cases ht : t < args.length
  · rw [if_pos ⟨Nat.zero_le _, ht⟩, Nat.sub_zero, List.getElem?_eq_getElem ht]
    obtain ⟨x, x1, x2⟩ := hx.get (List.getElem?_eq_getElem ht)
    have : (xs.toArray ++ Array.replicate (nt - xs.toArray.size) undef).getD t undef = x := by
      rw [Array.getD_eq_getD_getElem?, Array.getElem?_append_left (by simp; omega)]
      simp [x1]
    rw [this]
    exact x2
  · rw [if_neg (by omega)]
    rw [ho t]
    have : (xs.toArray ++ Array.replicate (nt - xs.toArray.size) undef).getD t undef = undef := by
      rw [Array.getD_eq_getD_getElem?, Array.getElem?_append_right (by simp; omega)]
      rw [Array.getElem?_replicate]
      split <;> rfl
    rw [this]
    exact ⟨[], rfl, rfl⟩
theorem orcsK_ok {v : AV} : ∀ {l : List Nat} {fr : Fr} {c : Fr → Out}, (∀ j, (fr.get j).getD (.tu []) = .tu []) → orcsK l fr c = .ok v → ∃ o : Fr, c o = .ok v ∧ ∀ j, (o.get j).getD (.tu []) = .tu []
  | [], fr, c, h, hk => ⟨fr, hk, h⟩
  | k :: l, fr, c, h, hk => by
    have hk' : Tr.setK fr k (some (.tu [])) (fun fr => orcsK l fr c) = .ok v := hk
    obtain ⟨fr1, h1, h2⟩ := Tr.setK_ok hk'
    refine orcsK_ok (fun j => ?_) h1
    rw [h2]
    by_cases hj : j = k
    · rw [if_pos hj]; rfl
    · rw [if_neg hj]; exact h j
theorem orcK_ok {v : AV} {X : XT} {f : FuncId} {c : Fr → Out} (hk : orcK X f c = .ok v) : ∃ o : Fr, c o = .ok v ∧ ∀ j, (o.get j).getD (.tu []) = .tu [] := by
  unfold orcK at hk
  split at hk
  · exact ⟨_, hk, fun j => by rw [Tr.get_e]; rfl⟩
  · split at hk
    · exact orcsK_ok (fun j => by rw [Tr.get_e]; rfl) hk
    · exact ⟨_, hk, fun j => by rw [Tr.get_e]; rfl⟩
theorem bodyK0_ok {n : Nat} {X : XT} {rec : Job} (hp : Plain P) (hrec : JobOK P n rec) : CallOK P (bodyK0 P X rec) := fun lim f args h nx k v hl hk => by
  unfold bodyK0 at hk
  rw [getL_eq, Array.getElem?_toList] at hk
  split at hk
  · rename_i fn hf
    split at hk
    · rename_i c hb
      obtain ⟨o, hk, ho⟩ := orcK_ok hk
      obtain ⟨fr, hk, e⟩ := argsK_ok hk
      simp only [Nat.zero_add] at hk e
      split at hk
      · rename_i hn
        have hn := ble_iff.1 hn
        rw [fN_eq] at hk
        obtain ⟨ex, fr', h', nx', hk, hr⟩ := hrec _ _ _ _ _ _ _ _ hl hk
        have frame : ∀ {r : Rn} {xs : List Value}, VRs r args xs → FR [] r fn.ntmps fr { tmps := xs.toArray ++ Array.replicate (fn.ntmps - xs.toArray.size) undef, defers := [] } := fun {r xs} hx => frame_of hn e ho hx
        have fin : ∀ {ex}, (ex = .nor ∨ ex = .ret) → (resK P fr' h' fn.results.toList fun l => oneK l fun v => k v h' nx') = .ok v → RunOK fn.ntmps lim fr h nx fr' h' nx' (fun N act w => WP P n c (At ex N) act w) →
            ∃ a h' nx', k a h' nx' = .ok v ∧ Keeps lim h nx h' nx' ∧ ∀ p r w xs, HR p lim r h.get w → Free nx nx' r → VRs r args xs → CallSem P f xs w (Left p lim r nx nx' h' a w) (LeftA p lim r nx nx' h' a w) := fun {ex} hex hk hr => by
          obtain ⟨as, hk, hres⟩ := resK_ok hk
          obtain ⟨a, hk, hone⟩ := oneK_ok hk
          refine ⟨a, h', nx', hk, hr.1, fun p r w xs H hfree hx => ?_⟩
          unfold CallSem
          rw [run_enter hp hf hb]
          refine calls_of_wp hf hb ?_
          refine wp_mono (hr.2 p r w _ [] H hfree (frame hx) (fun act' w' => After [] p lim r nx nx' fn.ntmps fr' h' w act' w') (fun _ _ h => h)).wp fun ex' act' w' ⟨e1, r', x1, f1, H1, k1⟩ => ?_
          have hb : bodyPost P fn (fun | .returned z, w'' => Left p lim r nx nx' h' a w z w'' | .panicked c, w'' => LeftA p lim r nx nx' h' a w c w'' | _, _ => False) .normal act' w' := by
            obtain ⟨ys, y1, y2⟩ := hres p lim r' w' act' H1 fun x _ => f1.tmp (resT x)
            refine ⟨f1.defers, _, ?_, r', x1, hone r' ys y2, H1, k1⟩
            rw [results_eq, List.mapM_toArray]
            simp only [Sem.run_bind, Sem.run_map, y1, Result.andThen_ok, Sem.run_pure]
          subst e1
          rcases hex with rfl | rfl
          · exact hb
          · exact hb
        split at hk
        · exact fin (.inl rfl) hk hr
        · exact fin (.inr rfl) hk hr
        · cases hk
        · cases hk
        · rename_i x bad
          refine ⟨.pa x, h', nx', hk, hr.1, fun p r w xs H hfree hx => ?_⟩
          unfold CallSem
          rw [run_enter hp hf hb]
          refine calls_of_wp hf hb ?_
          refine wp_mono (hr.2 p r w _ [] H hfree (frame hx) (fun c act' w' => AfterP bad p lim r nx nx' x fr' h' w c act' w') (fun _ _ _ h => h)).wp fun ex' act' w' ⟨c, e1, d1, hL⟩ => ?_
          subst e1
          exact ⟨d1, hL.left⟩
      · cases hk
    · rename_i hb
      obtain ⟨a, hk, hrun⟩ := extK_ok hf hb hk
      refine ⟨a, h, nx, hk, Keeps.refl _ _ _, fun p r w xs H hfree hx => ?_⟩
      obtain ⟨z, z1, z2⟩ := hrun r xs w hx
      unfold CallSem
      rw [z1]
      exact ⟨r, Ext.refl _ _ _, z2, H, Kp.refl _ _⟩
  · cases hk
theorem hand_ok {X : XT} {call : CallT} (hX : XOK P X) (hcall : CallOK P call) : CallOK P (fun lim f args h nx k => Option.rec (motive := fun _ => Out) (call lim f args h nx k) (fun c => c lim args h nx k) (X f)) := fun lim f args h nx k v hl hk => by
  have hk' : @Option.rec _ (fun _ => Out) (call lim f args h nx k) (fun c => c lim args h nx k) (X f) = .ok v := hk
  cases hx : X f with
  | none => rw [hx] at hk'; exact hcall lim f args h nx k v hl hk'
  | some c =>
    rw [hx] at hk'
    obtain ⟨a, h', nx', h1, h2, h3⟩ := hX f c hx lim args h nx k v hl hk'
    exact ⟨a, h', nx', h1, h2, fun p r w xs H hf hx => (h3 p r w xs H hf hx).mono (fun _ _ h => h) fun _ _ h => h.elim⟩
theorem enterK0_ok {n : Nat} {X : XT} {rec : Job} (hp : Plain P) (hX : XOK P X) (hrec : JobOK P n rec) : CallOK P (enterK0 P X rec) := hand_ok hX (bodyK0_ok hp hrec)
/-! functions that defer one -/
theorem isRec_spec {o : Oper} (h : isRec o = true) : o.guard = none ∧ ∀ ρ w, (execOp ρ o).run P w = .ok .recover w := by
  obtain ⟨dst, op, ty, pos, after, guard⟩ := o
  cases op <;> first | (cases guard <;> simp [isRec] at h; done) | skip
  rename_i c
  cases guard with
  | some g => simp [isRec] at h
  | none =>
    obtain ⟨callee, args, ats⟩ := c
    cases callee with
    | value f => simp [isRec] at h
    | invoke x nm => simp [isRec] at h
    | builtin b =>
      cases b <;> first | (simp [isRec] at h; done) | skip
      refine ⟨rfl, fun ρ w => ?_⟩
      simp [execOp, resolve, invoke, builtin]
theorem upon_of {o : Oper} {a : Act} {w : World} {Q : Exit → Act → List Frame → World → Prop} {cs : List Frame} {ops : Array Oper} {rest : List Nat} {i : Nat} (ho : ops[i]? = some o) (hw : Region.wanted o (yielded ops a.tmps) = true) (h : o.wp P a w (fun a w => wpOpsS P ops Q rest a cs w) (fun e a w => Q e a cs w)) : wpOpsS P ops Q (i :: rest) a cs w := by
  unfold wpOpsS
  rw [ho]
  simp only
  rw [if_pos hw]
  unfold Oper.wp at h
  revert h
  generalize (execOp a.eval o).run P w = R
  intro h
  split
  · exact h.elim
  · exact h
theorem wpListS {ops : Array Oper} {Q : Exit → Act → List Frame → World → Prop} {cs : List Frame} (hQ : ∀ a w, ¬ Q .outgrown a cs w) : ∀ (l : List Oper) (i : Nat) (act : Act) (w : World), (∀ j, l[j]? = ops[i + j]?) → wpList P ops (fun e a w => Q e a cs w) l act w → wpOpsS P ops Q (List.range' i l.length) act cs w
  | [], i, act, w, _, h => h
  | o :: l, i, act, w, hl, h => by
    have ho : ops[i]? = some o := by have := hl 0; simpa using this.symm
    have hl' : ∀ j, l[j]? = ops[i + 1 + j]? := fun j => by have := hl (j + 1); rw [show i + 1 + j = i + (j + 1) from by omega]; simpa using this
    show wpOpsS P ops Q (i :: List.range' (i + 1) l.length) act cs w
    unfold wpList at h
    split at h
    · rename_i hw
      rcases h with h | ⟨_, a', w', h⟩
      · exact upon_of ho hw (Oper.wp_mono (fun a w hh => wpListS hQ l (i + 1) a w hl' hh) h)
      · exact absurd h (hQ a' w')
    · rename_i hw
      unfold wpOpsS
      rw [ho]
      simp only
      rw [if_neg hw]
      exact wpListS hQ l (i + 1) _ w hl' h
theorem results_none {fn : Func} (hr : fn.results.toList = []) (tmps : Array Value) (w : World) : (results fn tmps).run P w = .ok (.tuple #[]) w := by
  rw [results_eq, hr]
  simp
theorem then_all {Q : Exit → Act → List Frame → World → Prop} {cs : List Frame} : (Exit.then (fun a w => Q .normal a cs w) fun e a w => Q e a cs w) = fun e a w => Q e a cs w := by
  funext e a w
  cases e <;> rfl
theorem cloK_ok {n : Nat} {call : CallT} {rec : Job} (hcall : CallOK P call) (hrec : JobOK P n rec) {lim : Nat} {g : FuncId} {args : List AV} {rv : AV} {h : T} {nx : Nat} {k : T → Nat → Out} {v : AV} (hl : Top lim h nx) (hk : cloK P call rec lim g args rv h nx k = .ok v) :
    ∃ h' nx', k h' nx' = .ok v ∧ Keeps lim h nx h' nx' ∧ (∃ fn c, P.funcs[g]? = some fn ∧ fn.body = some c) ∧ ∀ p r w xs u u' z, HR p lim r h.get w → Free nx nx' r → VRs r args xs → VR r rv z →
      ((u = .returning ∧ z = .nilIface ∧ u' = .returning) ∨ (u = .panicking [{ v := z, recovered := false }] ∧ u' = .panicking [{ v := z, recovered := true }])) →
      CallsD P g xs.toArray u w (fun e u1 w' => (∃ y, e = .returned y) ∧ u1 = u' ∧ ∃ r', Ext nx nx' r r' ∧ HR p lim r' h'.get w' ∧ Kp p w w') := by
  unfold cloK at hk
  rw [getL_eq, Array.getElem?_toList] at hk
  split at hk
  · rename_i fn hf
    split at hk
    · rename_i id ops rest hb hres
      split at hk
      · rename_i o l hol
        split at hk
        · rename_i hrc
          obtain ⟨hgd, hrun⟩ := isRec_spec hrc
          obtain ⟨fr, hk, e⟩ := argsK_ok hk
          simp only [Nat.zero_add] at hk e
          split at hk
          · rename_i hn
            have hn := ble_iff.1 hn
            rw [fN_eq] at hk
            obtain ⟨fr1, hk1, e1, hd1, hput⟩ := putD_ok hk
            clear hk
            rcases seqK_ok hcall l fr1 h nx _ hl hk1 with ⟨fr2, h2, n2, hk, hr1⟩ | ⟨x, bad, fr2, h2, n2, hk, _⟩
            · have hkeep1 := (hr1 (fun _ _ _ => False)).1
              obtain ⟨ex, fr3, h3, n3, hk, hr2⟩ := hrec _ _ _ _ _ _ _ _ (hkeep1.top hl) hk
              have hops : ops = (o :: l).toArray := by rw [← hol, Array.toArray_toList]
              have fin : ∀ {ex}, (ex = .nor ∨ ex = .ret) → k h3 n3 = .ok v → RunOK fn.ntmps lim fr2 h2 n2 fr3 h3 n3 (fun N act w => WP P n rest (At ex N) act w) →
                  ∃ h' nx', k h' nx' = .ok v ∧ Keeps lim h nx h' nx' ∧ (∃ fn c, P.funcs[g]? = some fn ∧ fn.body = some c) ∧ ∀ p r w xs u u' z, HR p lim r h.get w → Free nx nx' r → VRs r args xs → VR r rv z →
                    ((u = .returning ∧ z = .nilIface ∧ u' = .returning) ∨ (u = .panicking [{ v := z, recovered := false }] ∧ u' = .panicking [{ v := z, recovered := true }])) →
                    CallsD P g xs.toArray u w (fun e u1 w' => (∃ y, e = .returned y) ∧ u1 = u' ∧ ∃ r', Ext nx nx' r r' ∧ HR p lim r' h'.get w' ∧ Kp p w w') := fun {ex} hex hk hr2 => by
                refine ⟨h3, n3, hk, hkeep1.trans hr2.1, ⟨fn, _, hf, hb⟩, fun p r w xs u u' z H hfree hx hz hu => ?_⟩
                refine callsD_of_wpS hf hb fun c₀ cs hc => ?_
                have hfr := frame_of hn e (fun j => by rw [Tr.get_e]; rfl) hx
                generalize ({ tmps := xs.toArray ++ Array.replicate (fn.ntmps - xs.toArray.size) undef, defers := [] } : Act) = act at hfr ⊢
                refine wpS_seq (wpS_region ?_)
                have hsz : List.range ops.size = 0 :: List.range' 1 l.length := by
                  rw [hops, List.range_eq_range']
                  rfl
                have ho0 : ops[0]? = some o := by rw [hops]; rfl
                have hl1 : ∀ j, l[j]? = ops[1 + j]? := fun j => by rw [hops, List.getElem?_toArray, Nat.add_comm, List.getElem?_cons_succ]
                rw [hsz]
                have key : wpOpsS P ops (Exit.thenS (rest.wpS P (bodyPostS P fn c₀ cs fun e u1 w' => (∃ y, e = .returned y) ∧ u1 = u' ∧ ∃ r', Ext nx n3 r r' ∧ HR p lim r' h3.get w' ∧ Kp p w w')) (bodyPostS P fn c₀ cs fun e u1 w' => (∃ y, e = .returned y) ∧ u1 = u' ∧ ∃ r', Ext nx n3 r r' ∧ HR p lim r' h3.get w' ∧ Kp p w w')) (List.range' 1 l.length) (act.put o.dst z) ({ c₀ with mode := u' } :: cs) w := by
                  refine wpListS (fun a w hq => ?_) l 1 _ w hl1 ?_
                  · obtain ⟨_, ⟨y, hy⟩, _⟩ := hq
                    cases hy
                  · rw [← then_all, hops]
                    refine (hr1 _).2 p r w _ [] H (hfree.sub (Nat.le_refl _) hr2.1.le) (hput [] r act z hfr hz) _ fun act1 w1 ⟨r1, x1, f1, H1, k1⟩ => ?_
                    show rest.wpS P _ act1 _ w1
                    refine wpS_of_wp (wp_mono (hr2.2 p r1 w1 act1 [] H1 (hfree.next x1 hkeep1.le) f1 (fun act2 w2 => After [] p lim r1 n2 n3 fn.ntmps fr3 h3 w1 act2 w2) (fun _ _ h => h)).wp fun e2 act2 w2 ⟨q1, r2, x2, f2, H2, k2⟩ => ?_)
                    have done : bodyPostS P fn c₀ cs (fun e u1 w' => (∃ y, e = .returned y) ∧ u1 = u' ∧ ∃ r', Ext nx n3 r r' ∧ HR p lim r' h3.get w' ∧ Kp p w w') .normal act2 ({ c₀ with mode := u' } :: cs) w2 :=
                      ⟨f2.defers, u', rfl, _, results_none hres _ _, ⟨_, rfl⟩, rfl, r2, x1.trans x2 hkeep1.le hr2.1.le, H2, k1.trans k2⟩
                    subst q1
                    rcases hex with rfl | rfl
                    · exact done
                    · exact done
                unfold wpOpsS
                rw [ho0]
                simp only
                rw [if_pos (by unfold Region.wanted; rw [hgd]), hrun]
                simp only
                rcases hu with ⟨hu1, hz1, hu2⟩ | ⟨hu1, hu2⟩
                · have hc' : c₀.mode = .returning := hc.trans hu1
                  have hrd : recoverD (c₀ :: cs) = none := by unfold recoverD; simp [hc']
                  have hself : ({ c₀ with mode := u' } : Frame) = c₀ := by rw [hu2, ← hc']
                  rw [hrd]
                  simp only
                  rw [hself, hz1] at key
                  exact key
                · have hc' : c₀.mode = .panicking [{ v := z, recovered := false }] := hc.trans hu1
                  have hrd : recoverD (c₀ :: cs) = some (z, { c₀ with mode := u' } :: cs) := by unfold recoverD; simp [hc', hu2]
                  rw [hrd]
                  exact key
              split at hk
              · exact fin (.inl rfl) hk hr2
              · exact fin (.inr rfl) hk hr2
              · cases hk
            · cases hk
          · cases hk
        · cases hk
      · cases hk
    · cases hk
  · cases hk
theorem defersC_spec {c : Code} {a : Code} {m d : Oper} {x : Operand} {rest : Code} (h : defersC c = some (a, m, d, x, rest)) :
    ∃ id ops cl, c = .seq a (.seq (.region id ops false) rest) ∧ ops.toList = [m, d] ∧ d.op = .defer cl ∧ d.dst = none ∧ m.guard = none ∧ d.guard = none ∧ cl.callee = .value x ∧ cl.args.toList = [] := by
  unfold defersC at h
  split at h
  · rename_i a' id ops rest'
    split at h
    · rename_i m' d' hops
      split at h
      · rename_i cl e1 e2 e3 e4
        split at h
        · rename_i x' e5 e6
          cases h
          exact ⟨id, ops, cl, rfl, hops, e1, e2, e3, e4, e5, e6⟩
        · cases h
      · cases h
    · cases h
  · cases h
theorem okRes_spec {bad : List Nat} {l : List ResultVar} (h : okRes bad l = true) : ∀ x, x ∈ l → resT x ∉ bad := fun x hx hm => by
  have := List.all_eq_true.1 h x hx
  cases x with
  | tmp t =>
    simp only [Bool.not_eq_true', List.any_eq_false] at this
    exact this t hm (beq_iff.2 rfl)
  | cell t ty =>
    simp only [Bool.not_eq_true', List.any_eq_false] at this
    exact this t hm (beq_iff.2 rfl)
theorem bodyK_ok {n : Nat} {X : XT} {call : CallT} {rec : Job} (hp : Plain P) (hcall : CallOK P call) (hrec : JobOK P n rec) : CallOK P (bodyK P X call rec) := fun lim f args h nx k v hl hk => by
  have h0 := hk
  unfold bodyK at hk
  rw [getL_eq, Array.getElem?_toList] at hk
  split at hk
  · rename_i fn hf
    split at hk
    · rename_i c hb
      split at hk
      · rename_i a m d x rest hdc
        obtain ⟨id, ops, cl, rfl, hol, d1, d2, d3, d4, d5, d6⟩ := defersC_spec hdc
        clear h0
        unfold deferK at hk
        obtain ⟨fr, hk, e⟩ := argsK_ok hk
        simp only [Nat.zero_add] at hk e
        split at hk
        · rename_i hn
          have hn := ble_iff.1 hn
          rw [fN_eq] at hk
          obtain ⟨ex1, fr1, h1, n1, hk, hrA⟩ := hrec _ _ _ _ _ _ _ _ hl hk
          split at hk
          · have hrA : RunOK fn.ntmps lim fr h nx fr1 h1 n1 (fun N act w => WP P n a (At .nor N) act w) := hrA
            have hl1 := hrA.1.top hl
            rcases opPut_ok (kp := noKP) (k := fun fr h nx => opdK fr x _) hcall hl1 hk with ⟨fr2, h2, n2, hk, hrM⟩ | ⟨_, _, _, _, _, hk, _⟩
            · have hkeepM := (hrM (fun _ _ _ => False)).1
              have hl2 := hkeepM.top hl1
              obtain ⟨gv, hk, hgv⟩ := opdK_ok hk
              split at hk
              · rename_i g first cap
                obtain ⟨ex3, fr3, h3, n3, hk, hrR⟩ := hrec _ _ _ _ _ _ _ _ hl2 hk
                have hkeepR := RunE.keeps hrR
                have hl3 := hkeepR.top hl2
                -- what is behind the deferred call
                have tail : ∀ {rv : AV}, cloK P call rec lim g (first ++ cap) rv h3 n3 (fun h nx => resK P fr3 h fn.results.toList fun l => oneK l fun v => k v h nx) = .ok v →
                    ∃ a4 h4 n4, k a4 h4 n4 = .ok v ∧ Keeps lim h3 n3 h4 n4 ∧ ∀ p r w xs u z (tmps : Array Value) (R : Ending → World → Prop), HR p lim r h3.get w → Free n3 n4 r → VRs r (first ++ cap) xs → VR r rv z →
                      (u = .returning ∧ z = .nilIface ∨ u = .panicking [{ v := z, recovered := false }]) → (∀ y, y ∈ fn.results.toList → VR r ((fr3.get (resT y)).getD (.tu [])) (tmps.getD (resT y) undef)) →
                      (∀ z w', Left p lim r n3 n4 h4 a4 w z w' → R (.returned z) w') → ∀ fa ca : Array Value, fa ++ ca = xs.toArray → Leaves P fn tmps R [{ target := .fn (.func g) ca, args := fa }] u w := fun {rv} hk => by
                  obtain ⟨h4, n4, hk, hkeep4, ⟨gn, gc, hg1, hg2⟩, hclo⟩ := cloK_ok hcall hrec hl3 hk
                  obtain ⟨as, hk, hres⟩ := resK_ok hk
                  obtain ⟨a4, hk, hone⟩ := oneK_ok hk
                  refine ⟨a4, h4, n4, hk, hkeep4, fun p r w xs u z tmps R H hfree hx hz hu hslots hR fa ca hfc => ?_⟩
                  have hrunR : ∀ r4 w4, Ext n3 n4 r r4 → HR p lim r4 h4.get w4 → Kp p w w4 → Leaves P fn tmps R [] .returning w4 := fun r4 w4 x4 H4 k4 => by
                    obtain ⟨ys, y1, y2⟩ := hres p lim r4 w4 { tmps := tmps, defers := [] } H4 fun y hy => (hslots y hy).mono (x4.le hfree)
                    refine ⟨_, ?_, hR _ w4 ⟨r4, x4, hone r4 ys y2, H4, k4⟩⟩
                    rw [results_eq, List.mapM_toArray]
                    simp only [Sem.run_bind, Sem.run_map, y1, Result.andThen_ok, Sem.run_pure]
                  have hinv : (invoke (.fn (.func g) ca) fa).run P w = .ok (.enter g xs.toArray) w := by
                    show (callFunc g (fa ++ ca)).run P w = _
                    rw [hfc]
                    exact run_enter hp hg1 hg2 _ _
                  rcases hu with ⟨rfl, hz0⟩ | rfl
                  · refine leaves_cons (by simp) hinv (CallsD.mono (hclo p r w xs .returning .returning z H hfree hx hz (.inl ⟨rfl, hz0, rfl⟩)) fun e u1 w' ⟨⟨y, hy⟩, hu1, r4, x4, H4, k4⟩ => ?_)
                    subst hy hu1
                    exact hrunR r4 w' x4 H4 k4
                  · refine leaves_cons (by simp) hinv (CallsD.mono (hclo p r w xs _ _ z H hfree hx hz (.inr ⟨rfl, rfl⟩)) fun e u1 w' ⟨⟨y, hy⟩, hu1, r4, x4, H4, k4⟩ => ?_)
                    subst hy hu1
                    exact hrunR r4 w' x4 H4 k4
                -- the whole
                have whole : ∀ {a4 : AV} {h4 : T} {n4 : Nat}, Keeps lim h3 n3 h4 n4 → k a4 h4 n4 = .ok v → (∀ p r w act D (R : Ending → World → Prop), HR p lim r h2.get w → Free n2 n4 r → FR D r fn.ntmps fr2 act →
                      (∃ fa ca xs, VRs r (first ++ cap) xs ∧ fa ++ ca = xs.toArray ∧ D = [{ target := .fn (.func g) ca, args := fa }]) → (∀ z w', Left p lim r n2 n4 h4 a4 w z w' → R (.returned z) w') → rest.wp P (bodyPostD P fn R) act w) →
                    ∃ a h' nx', k a h' nx' = .ok v ∧ Keeps lim h nx h' nx' ∧ ∀ p r w xs, HR p lim r h.get w → Free nx nx' r → VRs r args xs → CallSem P f xs w (Left p lim r nx nx' h' a w) (LeftA p lim r nx nx' h' a w) := fun {a4 h4 n4} hkeep4 hk hrest => by
                  have l1 := hrA.1.le
                  have l2 := hkeepM.le
                  have l3 := hkeepR.le
                  have l4 := hkeep4.le
                  refine ⟨a4, h4, n4, hk, ((hrA.1.trans hkeepM).trans hkeepR).trans hkeep4, fun p r w xs H hfree hx => ?_⟩
                  unfold CallSem
                  rw [run_enter hp hf hb]
                  refine calls_of_wp_defers hf hb ?_
                  refine wp_seq (wp_mono (hrA.2 p r w _ [] H (hfree.sub (Nat.le_refl _) (by omega)) (frame_of hn e (fun j => by rw [Tr.get_e]; rfl) hx) (fun act1 w1 => After [] p lim r nx n1 fn.ntmps fr1 h1 w act1 w1) (fun _ _ h => h)).wp fun e1 act1 w1 ⟨q1, r1, x1, f1, H1, k1⟩ => ?_)
                  subst q1
                  refine wp_seq (wp_region_list ?_)
                  have f1free : Free n1 n4 r1 := hfree.next x1 l1
                  rw [hol]
                  unfold wpList
                  rw [if_pos (by unfold Region.wanted; rw [d3])]
                  refine .inl ((hrM _).2 p r1 w1 act1 [] H1 (f1free.sub (Nat.le_refl _) (by omega)) f1 _ fun act2 w2 ⟨r2, x2, f2, H2, k2⟩ => ?_)
                  have f2free : Free n2 n4 r2 := f1free.next x2 l2
                  unfold wpList
                  rw [if_pos (by unfold Region.wanted; rw [d4])]
                  refine .inl ?_
                  obtain ⟨xs1, ys1, z1, z2, z3⟩ : ∃ xs ys : List Value, act2.eval x = .func (.func g) xs.toArray ys.toArray ∧ VRs r2 first xs ∧ VRs r2 cap ys := f2.env H2.glob [x] x (by simp) _ hgv
                  have hcla : cl.args = #[] := by apply Array.ext'; exact d6
                  have hrun : (execOp act2.eval d).run P w2 = .ok (.defer { target := .fn (.func g) ys1.toArray, args := xs1.toArray ++ #[] }) w2 := by
                    unfold execOp
                    rw [d1]
                    simp [resolve, d5, hcla, z1, Deferred.ofValue]
                  unfold Oper.wp
                  rw [hrun, Oper.upon_defer, d2]
                  show rest.wp P _ _ w2
                  refine hrest p r2 w2 _ _ _ H2 f2free ⟨f2.size, rfl, f2.tmp⟩ ⟨xs1.toArray ++ #[], ys1.toArray, xs1 ++ ys1, z2.append z3, by simp, by show _ :: act2.defers = _; rw [f2.defers]⟩ fun z w' ⟨r4, x4, v4, H4, k4⟩ => ?_
                  exact ⟨r4, x1.trans (x2.trans x4 l2 (by omega)) l1 (by omega), v4, H4, k1.trans (k2.trans k4)⟩
                split at hk
                · have hrR : RunOK fn.ntmps lim fr2 h2 n2 fr3 h3 n3 (fun N act w => WP P n rest (At .nor N) act w) := hrR
                  obtain ⟨a4, h4, n4, hk, hkeep4, ht⟩ := tail hk
                  refine whole hkeep4 hk fun p r w act D R H hf' hfr ⟨fa, ca, xs, q1, q2, q3⟩ hR => ?_
                  refine wp_mono (hrR.2 p r w act D H (hf'.sub (Nat.le_refl _) hkeep4.le) hfr (fun act2 w2 => After D p lim r n2 n3 fn.ntmps fr3 h3 w act2 w2) (fun _ _ h => h)).wp fun e2 act2 w2 ⟨s1, r2, x2, f2, H2, k2⟩ => ?_
                  subst s1
                  show Leaves P fn act2.tmps R act2.defers .returning w2
                  rw [f2.defers, q3]
                  have hle := x2.le (hf'.sub (Nat.le_refl _) hkeep4.le)
                  exact ht p r2 w2 xs _ .nilIface act2.tmps R H2 (hf'.next x2 hkeepR.le) (q1.mono hle) rfl (.inl ⟨rfl, rfl⟩) (fun y _ => f2.tmp _) (fun z w' ⟨r4, x4, v4, H4, k4⟩ => hR z w' ⟨r4, x2.trans x4 hkeepR.le hkeep4.le, v4, H4, k2.trans k4⟩) fa ca q2
                · have hrR : RunOK fn.ntmps lim fr2 h2 n2 fr3 h3 n3 (fun N act w => WP P n rest (At .ret N) act w) := hrR
                  obtain ⟨a4, h4, n4, hk, hkeep4, ht⟩ := tail hk
                  refine whole hkeep4 hk fun p r w act D R H hf' hfr ⟨fa, ca, xs, q1, q2, q3⟩ hR => ?_
                  refine wp_mono (hrR.2 p r w act D H (hf'.sub (Nat.le_refl _) hkeep4.le) hfr (fun act2 w2 => After D p lim r n2 n3 fn.ntmps fr3 h3 w act2 w2) (fun _ _ h => h)).wp fun e2 act2 w2 ⟨s1, r2, x2, f2, H2, k2⟩ => ?_
                  subst s1
                  show Leaves P fn act2.tmps R act2.defers .returning w2
                  rw [f2.defers, q3]
                  have hle := x2.le (hf'.sub (Nat.le_refl _) hkeep4.le)
                  exact ht p r2 w2 xs _ .nilIface act2.tmps R H2 (hf'.next x2 hkeepR.le) (q1.mono hle) rfl (.inl ⟨rfl, rfl⟩) (fun y _ => f2.tmp _) (fun z w' ⟨r4, x4, v4, H4, k4⟩ => hR z w' ⟨r4, x2.trans x4 hkeepR.le hkeep4.le, v4, H4, k2.trans k4⟩) fa ca q2
                · rename_i y bad
                  have hrR : RunP fn.ntmps lim fr2 h2 n2 y bad fr3 h3 n3 (fun D N act w => WP P n rest (AtP D N) act w) := hrR
                  split at hk
                  · rename_i hbad
                    obtain ⟨a4, h4, n4, hk, hkeep4, ht⟩ := tail hk
                    refine whole hkeep4 hk fun p r w act D R H hf' hfr ⟨fa, ca, xs, q1, q2, q3⟩ hR => ?_
                    refine wp_mono (hrR.2 p r w act D H (hf'.sub (Nat.le_refl _) hkeep4.le) hfr (fun c act2 w2 => AfterP bad p lim r n2 n3 y fr3 h3 w c act2 w2) (fun _ _ _ h => h)).wp fun e2 act2 w2 ⟨c, s1, s2, z, r2, s3, x2, v2, H2, k2, f2⟩ => ?_
                    subst s1 s3
                    show Leaves P fn act2.tmps R act2.defers (.panicking _) w2
                    rw [s2, q3]
                    have hle := x2.le (hf'.sub (Nat.le_refl _) hkeep4.le)
                    exact ht p r2 w2 xs _ z act2.tmps R H2 (hf'.next x2 hkeepR.le) (q1.mono hle) v2 (.inr rfl) (fun y hy => f2 _ (okRes_spec hbad y hy)) (fun z w' ⟨r4, x4, v4, H4, k4⟩ => hR z w' ⟨r4, x2.trans x4 hkeepR.le hkeep4.le, v4, H4, k2.trans k4⟩) fa ca q2
                  · cases hk
                · cases hk
              · cases hk
            · cases hk
          · cases hk
        · cases hk
      · exact bodyK0_ok hp hrec lim f args h nx k v hl hk
    · exact bodyK0_ok hp hrec lim f args h nx k v hl hk
  · cases hk
theorem enterK_ok {n : Nat} {X : XT} {rec : Job} (hp : Plain P) (hX : XOK P X) (hrec : JobOK P n rec) : CallOK P (enterK P X rec) := hand_ok hX (bodyK_ok hp (enterK0_ok hp hX hrec) hrec)
end Clu
end Go.Proofs.Ythghohgjedjpbaa
