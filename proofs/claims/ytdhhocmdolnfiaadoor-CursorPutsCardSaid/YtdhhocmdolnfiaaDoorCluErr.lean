/-
  cursor.errno stands for its run.
-/
import Derived.Test.YtdhhocmdolnfiaaDoorErrno
import Derived.Test.YtdhhocmdolnfiaaDoorCluze
import Derived.Test.YtdhhocmdolnfiaaDoorCluLay
import Derived.LaidLaws
import Derived.LaidHandle
namespace Go.Proofs.YtdhhocmdolnfiaaDoor
namespace Clu
open Go.RowKit
set_option linter.unusedVariables false

theorem args_ni {r : Rn} {xs : List Value} (h : VRs r [.ni] xs) : xs = [.nilIface] := by
  obtain ⟨x, ys, rfl, h1, h2⟩ := h
  have h1 : x = .nilIface := h1
  have h2 : ys = [] := h2
  rw [h1, h2]
theorem args_fa {r : Rn} {xs : List Value} {t : TypeId} {n : Int} (h : VRs r [.fa t (.ag [.i .i64 n])] xs) : xs = [.iface t (.agg #[.int .i64 n])] := by
  obtain ⟨x, ys, rfl, ⟨y, h1, us, h3, u, us', h4, h5, h6⟩, h2⟩ := h
  have h2 : ys = [] := h2
  have h5 : u = .int .i64 n := h5
  have h6 : us' = [] := h6
  rw [h1, h2, h3, h4, h5, h6]
noncomputable def errnoH : HT := fun _ args h nx k => match args with
  | [.ni] => k (.i .i64 (.ofNat 0)) h nx
  | [.fa t (.ag [.i .i64 n])] => (match Nat.beq t 97, h.get 1 with
    | true, some (.c (.fa a (.ag [.p b o]) :: _) _ _ _) => (match Nat.beq a 113 && (Nat.beq b 2 && Nat.beq o 92) with
      | true => k (.i .i64 n) h nx
      | false => .err 71 0)
    | _, _ => .err 71 1)
  | _ => .err 71 2
theorem errno_body : ∃ c, Tryd.f48.body = some c := ⟨_, rfl⟩
theorem errnoH_ok : HandOK Tryd.prog 48 errnoH := fun lim args h nx k v hl hk => by
  unfold errnoH at hk
  split at hk
  · refine ⟨_, _, _, hk, Keeps.refl _ _ _, fun p r w xs H hf hx => ?_⟩
    have hx := args_ni hx
    subst hx
    unfold CallSem
    rw [run_enter plain Tryd.func48 errno_body.choose_spec]
    refine Calls.mono (errno_nil w) fun e w' he => ?_
    obtain ⟨rfl, hg⟩ := he
    exact left_below H rfl (bl_none (Below.refl _ w) hg)
  · rename_i t n
    split at hk
    · rename_i a b o rest fz osz pl ht hb
      have ht := beq_iff.1 ht
      subst ht
      split at hk
      · rename_i hc
        simp only [Bool.and_eq_true] at hc
        have c1 := beq_iff.1 hc.1
        have c2 := beq_iff.1 hc.2.1
        have c3 := beq_iff.1 hc.2.2
        subst c1 c2 c3
        refine ⟨_, _, _, hk, Keeps.refl _ _ _, fun p r w xs H hf hx => ?_⟩
        have hx := args_fa hx
        subst hx
        have hG : HG w := by
          obtain ⟨B, O, K, e1, e2, e3, _⟩ := H.blk _ _ hb
          rw [H.glob 1 (by decide)] at e1
          cases e1
          obtain ⟨z, z1, y, rfl, vs, rfl, u, us, rfl, ⟨B', O', K', q1, rfl⟩, rfl⟩ := e3 0 _ rfl
          rw [H.glob 2 (by decide)] at q1
          cases q1
          simpa [HG] using z1
        unfold CallSem
        rw [run_enter plain Tryd.func48 errno_body.choose_spec]
        refine Calls.mono (errno_fail n w hG) fun e w' he => ?_
        obtain ⟨rfl, hg⟩ := he
        exact left_below H rfl (bl_none (Below.refl _ w) hg)
      · cases hk
    · cases hk
  · cases hk
noncomputable def xErr : XT := fun f => Bool.rec (motive := fun _ => Option HT) none (some errnoH) (Nat.beq f 48)
theorem xErr_ok : XOK Tryd.prog xErr := fun f c h => by
  have h' : @Bool.rec (fun _ => Option HT) none (some errnoH) (Nat.beq f 48) = some c := h
  cases hf : Nat.beq f 48 with
  | false => rw [hf] at h'; cases h'
  | true =>
    rw [hf] at h'
    cases h'
    have := beq_iff.1 hf
    subst this
    exact errnoH_ok
/-- the cells of errors.errorType -/
def errCells : Nat × List AV := (1, [.fa 113 (.ag [.p 2 92])])
theorem errAt {w : World} (h : HG w) : LaidAt w errCells.1 errCells.2 := ⟨by decide, fun j a hj => by
  cases j with
  | zero =>
    cases hj
    exact ⟨_, h, _, rfl, _, rfl, _, _, rfl, ⟨2, 0, 0, if_pos (by decide), rfl⟩, rfl⟩
  | succ j => cases j <;> cases hj⟩
theorem l_et : Tryd.prog.globalNamed "errors.errorType" = some 1 := by kernel_rfl
theorem l_rt : (Tryd.prog.cutTypes.find? (·.1 == "internal/reflectlite.rtype")).map (·.2) = some 113 := by kernel_rfl
theorem l_oneRow : ((List.range 153).filter fun t => Tryd.prog.rowNamed t [101, 114, 114, 111, 114]) = [92] := by kernel_rfl
theorem l_size : Tryd.prog.types.size = 153 := by kernel_rfl
theorem hg_of {W : World} (h : handlesMet Tryd.prog [("errors.errorType", DataW.iface "internal/reflectlite.rtype" (.agg [.ptr (.lit (.string [101, 114, 114, 111, 114]))]))] W) : HG W := by
  obtain ⟨name, u, ty, e1, e2, e3, e4, e5⟩ := h _ (List.mem_singleton.2 rfl)
  have en : name = [101, 114, 114, 111, 114] := (Option.some.inj e1).symm
  subst en
  obtain rfl := Option.some.inj (l_rt.symm.trans e2)
  have hm : ty ∈ (List.range 153).filter fun t => Tryd.prog.rowNamed t [101, 114, 114, 111, 114] := List.mem_filter.2 ⟨List.mem_range.2 (by rw [← l_size]; exact e3), e4⟩
  rw [l_oneRow] at hm
  obtain rfl := List.mem_singleton.1 hm
  have hh : typeHandle Tryd.prog 92 = .pointer (some ⟨2, 92, none⟩) := by kernel_rfl
  rw [hh] at e5
  show W.cell? ⟨1, 0, none⟩ = _
  simpa using World.var?_cell l_et e5 0
end Clu
end Go.Proofs.YtdhhocmdolnfiaaDoor
