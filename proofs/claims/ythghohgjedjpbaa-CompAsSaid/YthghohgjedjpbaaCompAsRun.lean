/-
  CompAs: what it comes to.
-/
import Derived.Test.YthghohgjedjpbaaCompAsBase
import Derived.Test.YthghohgjedjpbaaAsA
namespace Go.Proofs.Ythghohgjedjpbaa.compAs
open Go.RowKit
set_option linter.unusedVariables false
set_option linter.unusedSimpArgs false
set_option maxRecDepth 100000

noncomputable def awH : List Clu.AV → Clu.Dec Clu.AV := fun args => match args with
  | [] => .leaf (.b true)
  | _ => .fail
noncomputable def rdH (vn vN vx vz : Nat → Nat → Int → Nat) : List Clu.AV → Clu.Dec Clu.AV := fun args => match args with
  | [.s n N, .i .i64 a] => .need (Nat.blt n 10001) (.leaf (.tu [.s (vn n N a) (vN n N a), .i .i64 (.ofNat (vx n N a)), .i .i64 (.ofNat (vz n N a))]))
  | _ => .fail

set_option maxRecDepth 10000000 in
theorem asF_raw (vn vN vx vz : Nat → Nat → Int → Nat) (my : Nat → Nat → Bool) (n N m M o O : Nat) (a : Int) : (Clu.layK [] .e fun h => Clu.runL (Clu.noL) Try.prog (Clu.tell (Clu.addB (Clu.addB (Clu.addB (Clu.noX) 9 (Clu.decH awH)) 10 (Clu.decH (rdH vn vN vx vz))) 12 (Clu.decH (mayH my))) 5 30001663000156300015030001223000104300009430000883000056300005030000403000030) (1000) 1000 5 [.s n N, .s m M, .s o O, .i .i64 a] h 1000) = Clu.forkB ((Clu.iLt (Int.ofNat 2000) (Int.ofNat n))) (Clu.forkB ((Clu.iLt (Int.ofNat 2000) (Int.ofNat o))) (Clu.forkB ((Clu.iLt (Int.ofNat 2000) (Int.ofNat m))) (Clu.needT ((Nat.blt (n + m) 9223372036854775808)) (.err 10 5) (Clu.needT ((Nat.blt ((n + m) + o) 9223372036854775808)) (.err 10 5) (Clu.needT ((Nat.blt ((n + m) + o) 10001)) (.err 96 1) (Clu.needT ((Nat.blt m 9000000000000000000)) (.err 96 1) (Clu.forkB ((my m M)) (Clu.needT ((Nat.blt (n + m) 9223372036854775808)) (.err 10 5) (Clu.needT ((Nat.blt ((n + m) + o) 9223372036854775808)) (.err 10 5) (Clu.needT ((Nat.blt ((n + m) + o) 10001)) (.err 96 1) (Clu.forkB ((Bool.not (Clu.iEq (Int.ofNat (vz ((n + m) + o) (Clu.catN (n + m) (Clu.catN n N M) O) a)) (Int.ofNat 0)))) (Clu.needT ((Nat.blt (vn ((n + m) + o) (Clu.catN (n + m) (Clu.catN n N M) O) a) 9000000000000000000)) (.err 96 1) (Clu.forkB ((my (vn ((n + m) + o) (Clu.catN (n + m) (Clu.catN n N M) O) a) (vN ((n + m) + o) (Clu.catN (n + m) (Clu.catN n N M) O) a))) ((Clu.Out.ok (Clu.AV.b false))) (Clu.forkB ((Clu.iLt a (Int.ofNat (vx ((n + m) + o) (Clu.catN (n + m) (Clu.catN n N M) O) a)))) ((Clu.Out.ok (Clu.AV.b false))) (Clu.needT ((Clu.inR IntKind.i64 (Int.ofNat (n + m)))) (.err 10 20) (Clu.needT ((Clu.inR IntKind.i64 (Int.ofNat ((n + m) + o)))) (.err 10 20) ((Clu.Out.ok (Clu.AV.b (Bool.not (Clu.iLt (Int.ofNat ((n + m) + o)) (Int.ofNat (vx ((n + m) + o) (Clu.catN (n + m) (Clu.catN n N M) O) a)))))))))))) ((Clu.Out.ok (Clu.AV.b true))))))) (Clu.forkB ((Bool.not (Clu.iEq (Int.ofNat (vz ((n + m) + o) (Clu.catN (n + m) (Clu.catN n N M) O) (Int.ofNat n))) (Int.ofNat 0)))) (Clu.forkB ((Bool.not (Clu.eqNs (vn ((n + m) + o) (Clu.catN (n + m) (Clu.catN n N M) O) (Int.ofNat n)) (vN ((n + m) + o) (Clu.catN (n + m) (Clu.catN n N M) O) (Int.ofNat n)) m M))) (Clu.needT ((Clu.inR IntKind.i64 (Int.ofNat (n + m)))) (.err 10 20) (Clu.forkB ((Bool.not (Clu.iEq (Int.ofNat (vx ((n + m) + o) (Clu.catN (n + m) (Clu.catN n N M) O) (Int.ofNat n))) (Int.ofNat (n + m))))) (Clu.needT ((Nat.blt (n + m) 9223372036854775808)) (.err 10 5) (Clu.needT ((Nat.blt ((n + m) + o) 9223372036854775808)) (.err 10 5) (Clu.needT ((Nat.blt ((n + m) + o) 10001)) (.err 96 1) (Clu.forkB ((Bool.not (Clu.iEq (Int.ofNat (vz ((n + m) + o) (Clu.catN (n + m) (Clu.catN n N M) O) a)) (Int.ofNat 0)))) (Clu.needT ((Nat.blt (vn ((n + m) + o) (Clu.catN (n + m) (Clu.catN n N M) O) a) 9000000000000000000)) (.err 96 1) (Clu.forkB ((my (vn ((n + m) + o) (Clu.catN (n + m) (Clu.catN n N M) O) a) (vN ((n + m) + o) (Clu.catN (n + m) (Clu.catN n N M) O) a))) ((Clu.Out.ok (Clu.AV.b false))) (Clu.forkB ((Clu.iLt a (Int.ofNat (vx ((n + m) + o) (Clu.catN (n + m) (Clu.catN n N M) O) a)))) ((Clu.Out.ok (Clu.AV.b false))) (Clu.needT ((Clu.inR IntKind.i64 (Int.ofNat (n + m)))) (.err 10 20) (Clu.needT ((Clu.inR IntKind.i64 (Int.ofNat ((n + m) + o)))) (.err 10 20) ((Clu.Out.ok (Clu.AV.b (Bool.not (Clu.iLt (Int.ofNat ((n + m) + o)) (Int.ofNat (vx ((n + m) + o) (Clu.catN (n + m) (Clu.catN n N M) O) a)))))))))))) ((Clu.Out.ok (Clu.AV.b true))))))) ((Clu.Out.ok (Clu.AV.b false))))) ((Clu.Out.ok (Clu.AV.b false)))) ((Clu.Out.ok (Clu.AV.b false))))))))) ((Clu.Out.ok (Clu.AV.b true)))) ((Clu.Out.ok (Clu.AV.b true)))) ((Clu.Out.ok (Clu.AV.b true))) := by kernel_rfl
set_option linter.unusedVariables false in
theorem asF_run (vn vN vx vz : Nat → Nat → Int → Nat) (my : Nat → Nat → Bool) (n N m M o O : Nat) (a : Int) (hX : Clu.XOK Try.prog (Clu.addB (Clu.addB (Clu.addB (Clu.noX) 9 (Clu.decH awH)) 10 (Clu.decH (rdH vn vN vx vz))) 12 (Clu.decH (mayH my))))  
  (V0 : (n ≤ 2000) → (o ≤ 2000) → (m ≤ 2000) → ((my m M) = false) → ((vz ((n + m) + o) (Clu.catN (n + m) (Clu.catN n N M) O) a) = 0) → (vn ((n + m) + o) (Clu.catN (n + m) (Clu.catN n N M) O) a) < 9000000000000000000)
  (V1 : (n ≤ 2000) → (o ≤ 2000) → (m ≤ 2000) → ((my m M) = false) → ((vz ((n + m) + o) (Clu.catN (n + m) (Clu.catN n N M) O) a) = 0) → ((my (vn ((n + m) + o) (Clu.catN (n + m) (Clu.catN n N M) O) a) (vN ((n + m) + o) (Clu.catN (n + m) (Clu.catN n N M) O) a)) = false) → False)
  (V2 : (n ≤ 2000) → (o ≤ 2000) → (m ≤ 2000) → ((my m M) = false) → ((vz ((n + m) + o) (Clu.catN (n + m) (Clu.catN n N M) O) a) = 0) → ((my (vn ((n + m) + o) (Clu.catN (n + m) (Clu.catN n N M) O) a) (vN ((n + m) + o) (Clu.catN (n + m) (Clu.catN n N M) O) a)) = true) → ((((vx ((n + m) + o) (Clu.catN (n + m) (Clu.catN n N M) O) a) : Nat) : Int) ≤ a) → False)
  (V3 : (n ≤ 2000) → (o ≤ 2000) → (m ≤ 2000) → ((my m M) = false) → ((vz ((n + m) + o) (Clu.catN (n + m) (Clu.catN n N M) O) a) = 0) → ((my (vn ((n + m) + o) (Clu.catN (n + m) (Clu.catN n N M) O) a) (vN ((n + m) + o) (Clu.catN (n + m) (Clu.catN n N M) O) a)) = true) → (a < (((vx ((n + m) + o) (Clu.catN (n + m) (Clu.catN n N M) O) a) : Nat) : Int)) → (vx ((n + m) + o) (Clu.catN (n + m) (Clu.catN n N M) O) a) ≤ ((n + m) + o))
  (V4 : (n ≤ 2000) → (o ≤ 2000) → (m ≤ 2000) → ((my m M) = true) → ((vz ((n + m) + o) (Clu.catN (n + m) (Clu.catN n N M) O) (Int.ofNat n)) = 0) → ((Clu.eqNs (vn ((n + m) + o) (Clu.catN (n + m) (Clu.catN n N M) O) (Int.ofNat n)) (vN ((n + m) + o) (Clu.catN (n + m) (Clu.catN n N M) O) (Int.ofNat n)) m M) = true) → ((vx ((n + m) + o) (Clu.catN (n + m) (Clu.catN n N M) O) (Int.ofNat n)) = (n + m)) → ((vz ((n + m) + o) (Clu.catN (n + m) (Clu.catN n N M) O) a) = 0) → (vn ((n + m) + o) (Clu.catN (n + m) (Clu.catN n N M) O) a) < 9000000000000000000)
  (V5 : (n ≤ 2000) → (o ≤ 2000) → (m ≤ 2000) → ((my m M) = true) → ((vz ((n + m) + o) (Clu.catN (n + m) (Clu.catN n N M) O) (Int.ofNat n)) = 0) → ((Clu.eqNs (vn ((n + m) + o) (Clu.catN (n + m) (Clu.catN n N M) O) (Int.ofNat n)) (vN ((n + m) + o) (Clu.catN (n + m) (Clu.catN n N M) O) (Int.ofNat n)) m M) = true) → ((vx ((n + m) + o) (Clu.catN (n + m) (Clu.catN n N M) O) (Int.ofNat n)) = (n + m)) → ((vz ((n + m) + o) (Clu.catN (n + m) (Clu.catN n N M) O) a) = 0) → ((my (vn ((n + m) + o) (Clu.catN (n + m) (Clu.catN n N M) O) a) (vN ((n + m) + o) (Clu.catN (n + m) (Clu.catN n N M) O) a)) = false) → False)
  (V6 : (n ≤ 2000) → (o ≤ 2000) → (m ≤ 2000) → ((my m M) = true) → ((vz ((n + m) + o) (Clu.catN (n + m) (Clu.catN n N M) O) (Int.ofNat n)) = 0) → ((Clu.eqNs (vn ((n + m) + o) (Clu.catN (n + m) (Clu.catN n N M) O) (Int.ofNat n)) (vN ((n + m) + o) (Clu.catN (n + m) (Clu.catN n N M) O) (Int.ofNat n)) m M) = true) → ((vx ((n + m) + o) (Clu.catN (n + m) (Clu.catN n N M) O) (Int.ofNat n)) = (n + m)) → ((vz ((n + m) + o) (Clu.catN (n + m) (Clu.catN n N M) O) a) = 0) → ((my (vn ((n + m) + o) (Clu.catN (n + m) (Clu.catN n N M) O) a) (vN ((n + m) + o) (Clu.catN (n + m) (Clu.catN n N M) O) a)) = true) → ((((vx ((n + m) + o) (Clu.catN (n + m) (Clu.catN n N M) O) a) : Nat) : Int) ≤ a) → False)
  (V7 : (n ≤ 2000) → (o ≤ 2000) → (m ≤ 2000) → ((my m M) = true) → ((vz ((n + m) + o) (Clu.catN (n + m) (Clu.catN n N M) O) (Int.ofNat n)) = 0) → ((Clu.eqNs (vn ((n + m) + o) (Clu.catN (n + m) (Clu.catN n N M) O) (Int.ofNat n)) (vN ((n + m) + o) (Clu.catN (n + m) (Clu.catN n N M) O) (Int.ofNat n)) m M) = true) → ((vx ((n + m) + o) (Clu.catN (n + m) (Clu.catN n N M) O) (Int.ofNat n)) = (n + m)) → ((vz ((n + m) + o) (Clu.catN (n + m) (Clu.catN n N M) O) a) = 0) → ((my (vn ((n + m) + o) (Clu.catN (n + m) (Clu.catN n N M) O) a) (vN ((n + m) + o) (Clu.catN (n + m) (Clu.catN n N M) O) a)) = true) → (a < (((vx ((n + m) + o) (Clu.catN (n + m) (Clu.catN n N M) O) a) : Nat) : Int)) → (vx ((n + m) + o) (Clu.catN (n + m) (Clu.catN n N M) O) a) ≤ ((n + m) + o))
  (V8 : (n ≤ 2000) → (o ≤ 2000) → (m ≤ 2000) → ((my m M) = true) → ((vz ((n + m) + o) (Clu.catN (n + m) (Clu.catN n N M) O) (Int.ofNat n)) = 0) → ((Clu.eqNs (vn ((n + m) + o) (Clu.catN (n + m) (Clu.catN n N M) O) (Int.ofNat n)) (vN ((n + m) + o) (Clu.catN (n + m) (Clu.catN n N M) O) (Int.ofNat n)) m M) = true) → ((vx ((n + m) + o) (Clu.catN (n + m) (Clu.catN n N M) O) (Int.ofNat n)) ≠ (n + m)) → False)
  (V9 : (n ≤ 2000) → (o ≤ 2000) → (m ≤ 2000) → ((my m M) = true) → ((vz ((n + m) + o) (Clu.catN (n + m) (Clu.catN n N M) O) (Int.ofNat n)) = 0) → ((Clu.eqNs (vn ((n + m) + o) (Clu.catN (n + m) (Clu.catN n N M) O) (Int.ofNat n)) (vN ((n + m) + o) (Clu.catN (n + m) (Clu.catN n N M) O) (Int.ofNat n)) m M) = false) → False)
  (V10 : (n ≤ 2000) → (o ≤ 2000) → (m ≤ 2000) → ((my m M) = true) → ((vz ((n + m) + o) (Clu.catN (n + m) (Clu.catN n N M) O) (Int.ofNat n)) ≠ 0) → False) : (Clu.layK [] .e fun h => Clu.runL (Clu.noL) Try.prog (Clu.tell (Clu.addB (Clu.addB (Clu.addB (Clu.noX) 9 (Clu.decH awH)) 10 (Clu.decH (rdH vn vN vx vz))) 12 (Clu.decH (mayH my))) 5 30001663000156300015030001223000104300009430000883000056300005030000403000030) (1000) 1000 5 [.s n N, .s m M, .s o O, .i .i64 a] h 1000) = .ok (.b true) := by
  rw [asF_raw]
  refine Clu.forkB_cases (fun bc1 => ?_) (fun bc1 => ?_)
  · have c1 : n ≤ 2000 := (Int.ofNat_le.1 (Clu.of_iLt_f bc1))
    refine Clu.forkB_cases (fun bc2 => ?_) (fun bc2 => ?_)
    · have c2 : o ≤ 2000 := (Int.ofNat_le.1 (Clu.of_iLt_f bc2))
      refine Clu.forkB_cases (fun bc3 => ?_) (fun bc3 => ?_)
      · have c3 : m ≤ 2000 := (Int.ofNat_le.1 (Clu.of_iLt_f bc3))
        have q3 : (n + m) < 9223372036854775808 := (by omega)
        refine (Clu.needT_eq (Clu.blt_iff.2 q3) _ _).trans ?_
        have q3 : ((n + m) + o) < 9223372036854775808 := (by omega)
        refine (Clu.needT_eq (Clu.blt_iff.2 q3) _ _).trans ?_
        have q3 : ((n + m) + o) < 10001 := (by omega)
        refine (Clu.needT_eq (Clu.blt_iff.2 q3) _ _).trans ?_
        have q3 : m < 9000000000000000000 := (by omega)
        refine (Clu.needT_eq (Clu.blt_iff.2 q3) _ _).trans ?_
        refine Clu.forkB_cases (fun bc4 => ?_) (fun bc4 => ?_)
        · have c4 : (my m M) = false := bc4
          have q4 : (n + m) < 9223372036854775808 := (by omega)
          refine (Clu.needT_eq (Clu.blt_iff.2 q4) _ _).trans ?_
          have q4 : ((n + m) + o) < 9223372036854775808 := (by omega)
          refine (Clu.needT_eq (Clu.blt_iff.2 q4) _ _).trans ?_
          have q4 : ((n + m) + o) < 10001 := (by omega)
          refine (Clu.needT_eq (Clu.blt_iff.2 q4) _ _).trans ?_
          refine Clu.forkB_cases (fun bc5 => ?_) (fun bc5 => ?_)
          · have c5 : (vz ((n + m) + o) (Clu.catN (n + m) (Clu.catN n N M) O) a) = 0 := (Int.ofNat.inj (Clu.of_iEq_t (Clu.of_not_f bc5)))
            have q5 : (vn ((n + m) + o) (Clu.catN (n + m) (Clu.catN n N M) O) a) < 9000000000000000000 := (V0 c1 c2 c3 c4 c5)
            refine (Clu.needT_eq (Clu.blt_iff.2 q5) _ _).trans ?_
            refine Clu.forkB_cases (fun bc6 => ?_) (fun bc6 => ?_)
            · have c6 : (my (vn ((n + m) + o) (Clu.catN (n + m) (Clu.catN n N M) O) a) (vN ((n + m) + o) (Clu.catN (n + m) (Clu.catN n N M) O) a)) = false := bc6
              exact (V1 c1 c2 c3 c4 c5 c6).elim
            · have c6 : (my (vn ((n + m) + o) (Clu.catN (n + m) (Clu.catN n N M) O) a) (vN ((n + m) + o) (Clu.catN (n + m) (Clu.catN n N M) O) a)) = true := bc6
              refine Clu.forkB_cases (fun bc7 => ?_) (fun bc7 => ?_)
              · have c7 : (((vx ((n + m) + o) (Clu.catN (n + m) (Clu.catN n N M) O) a) : Nat) : Int) ≤ a := (Clu.of_iLt_f bc7)
                exact (V2 c1 c2 c3 c4 c5 c6 c7).elim
              · have c7 : a < (((vx ((n + m) + o) (Clu.catN (n + m) (Clu.catN n N M) O) a) : Nat) : Int) := (Clu.of_iLt_t bc7)
                have q7 : (n + m) < 9223372036854775808 := (by omega)
                refine (Clu.needT_eq (Clu.inR_nat (k := .i64) q7) _ _).trans ?_
                have q7 : ((n + m) + o) < 9223372036854775808 := (by omega)
                refine (Clu.needT_eq (Clu.inR_nat (k := .i64) q7) _ _).trans ?_
                have r7 : (vx ((n + m) + o) (Clu.catN (n + m) (Clu.catN n N M) O) a) ≤ ((n + m) + o) := V3 c1 c2 c3 c4 c5 c6 c7
                exact congrArg (fun b => Clu.Out.ok (.b b)) (congrArg not (Clu.iLt_f (Int.ofNat_le.2 r7)))
          · have c5 : (vz ((n + m) + o) (Clu.catN (n + m) (Clu.catN n N M) O) a) ≠ 0 := (fun hh => (Clu.of_iEq_f (Clu.of_not_t bc5)) (congrArg Int.ofNat hh))
            rfl
        · have c4 : (my m M) = true := bc4
          refine Clu.forkB_cases (fun bc5 => ?_) (fun bc5 => ?_)
          · have c5 : (vz ((n + m) + o) (Clu.catN (n + m) (Clu.catN n N M) O) (Int.ofNat n)) = 0 := (Int.ofNat.inj (Clu.of_iEq_t (Clu.of_not_f bc5)))
            refine Clu.forkB_cases (fun bc6 => ?_) (fun bc6 => ?_)
            · have c6 : (Clu.eqNs (vn ((n + m) + o) (Clu.catN (n + m) (Clu.catN n N M) O) (Int.ofNat n)) (vN ((n + m) + o) (Clu.catN (n + m) (Clu.catN n N M) O) (Int.ofNat n)) m M) = true := (Clu.of_not_f bc6)
              have q6 : (n + m) < 9223372036854775808 := (by omega)
              refine (Clu.needT_eq (Clu.inR_nat (k := .i64) q6) _ _).trans ?_
              refine Clu.forkB_cases (fun bc7 => ?_) (fun bc7 => ?_)
              · have c7 : (vx ((n + m) + o) (Clu.catN (n + m) (Clu.catN n N M) O) (Int.ofNat n)) = (n + m) := (Int.ofNat.inj (Clu.of_iEq_t (Clu.of_not_f bc7)))
                have q7 : (n + m) < 9223372036854775808 := (by omega)
                refine (Clu.needT_eq (Clu.blt_iff.2 q7) _ _).trans ?_
                have q7 : ((n + m) + o) < 9223372036854775808 := (by omega)
                refine (Clu.needT_eq (Clu.blt_iff.2 q7) _ _).trans ?_
                have q7 : ((n + m) + o) < 10001 := (by omega)
                refine (Clu.needT_eq (Clu.blt_iff.2 q7) _ _).trans ?_
                refine Clu.forkB_cases (fun bc8 => ?_) (fun bc8 => ?_)
                · have c8 : (vz ((n + m) + o) (Clu.catN (n + m) (Clu.catN n N M) O) a) = 0 := (Int.ofNat.inj (Clu.of_iEq_t (Clu.of_not_f bc8)))
                  have q8 : (vn ((n + m) + o) (Clu.catN (n + m) (Clu.catN n N M) O) a) < 9000000000000000000 := (V4 c1 c2 c3 c4 c5 c6 c7 c8)
                  refine (Clu.needT_eq (Clu.blt_iff.2 q8) _ _).trans ?_
                  refine Clu.forkB_cases (fun bc9 => ?_) (fun bc9 => ?_)
                  · have c9 : (my (vn ((n + m) + o) (Clu.catN (n + m) (Clu.catN n N M) O) a) (vN ((n + m) + o) (Clu.catN (n + m) (Clu.catN n N M) O) a)) = false := bc9
                    exact (V5 c1 c2 c3 c4 c5 c6 c7 c8 c9).elim
                  · have c9 : (my (vn ((n + m) + o) (Clu.catN (n + m) (Clu.catN n N M) O) a) (vN ((n + m) + o) (Clu.catN (n + m) (Clu.catN n N M) O) a)) = true := bc9
                    refine Clu.forkB_cases (fun bc10 => ?_) (fun bc10 => ?_)
                    · have c10 : (((vx ((n + m) + o) (Clu.catN (n + m) (Clu.catN n N M) O) a) : Nat) : Int) ≤ a := (Clu.of_iLt_f bc10)
                      exact (V6 c1 c2 c3 c4 c5 c6 c7 c8 c9 c10).elim
                    · have c10 : a < (((vx ((n + m) + o) (Clu.catN (n + m) (Clu.catN n N M) O) a) : Nat) : Int) := (Clu.of_iLt_t bc10)
                      have q10 : (n + m) < 9223372036854775808 := (by omega)
                      refine (Clu.needT_eq (Clu.inR_nat (k := .i64) q10) _ _).trans ?_
                      have q10 : ((n + m) + o) < 9223372036854775808 := (by omega)
                      refine (Clu.needT_eq (Clu.inR_nat (k := .i64) q10) _ _).trans ?_
                      have r10 : (vx ((n + m) + o) (Clu.catN (n + m) (Clu.catN n N M) O) a) ≤ ((n + m) + o) := V7 c1 c2 c3 c4 c5 c6 c7 c8 c9 c10
                      exact congrArg (fun b => Clu.Out.ok (.b b)) (congrArg not (Clu.iLt_f (Int.ofNat_le.2 r10)))
                · have c8 : (vz ((n + m) + o) (Clu.catN (n + m) (Clu.catN n N M) O) a) ≠ 0 := (fun hh => (Clu.of_iEq_f (Clu.of_not_t bc8)) (congrArg Int.ofNat hh))
                  rfl
              · have c7 : (vx ((n + m) + o) (Clu.catN (n + m) (Clu.catN n N M) O) (Int.ofNat n)) ≠ (n + m) := (fun hh => (Clu.of_iEq_f (Clu.of_not_t bc7)) (congrArg Int.ofNat hh))
                exact (V8 c1 c2 c3 c4 c5 c6 c7).elim
            · have c6 : (Clu.eqNs (vn ((n + m) + o) (Clu.catN (n + m) (Clu.catN n N M) O) (Int.ofNat n)) (vN ((n + m) + o) (Clu.catN (n + m) (Clu.catN n N M) O) (Int.ofNat n)) m M) = false := (Clu.of_not_t bc6)
              exact (V9 c1 c2 c3 c4 c5 c6).elim
          · have c5 : (vz ((n + m) + o) (Clu.catN (n + m) (Clu.catN n N M) O) (Int.ofNat n)) ≠ 0 := (fun hh => (Clu.of_iEq_f (Clu.of_not_t bc5)) (congrArg Int.ofNat hh))
            exact (V10 c1 c2 c3 c4 c5).elim
      · have c3 : 2000 < m := (Int.ofNat_lt.1 (Clu.of_iLt_t bc3))
        rfl
    · have c2 : 2000 < o := (Int.ofNat_lt.1 (Clu.of_iLt_t bc2))
      rfl
  · have c1 : 2000 < n := (Int.ofNat_lt.1 (Clu.of_iLt_t bc1))
    rfl
theorem asF_law (vn vN vx vz : Nat → Nat → Int → Nat) (my : Nat → Nat → Bool) (n N m M o O : Nat) (a : Int) (hX : Clu.XOK Try.prog (Clu.addB (Clu.addB (Clu.addB (Clu.noX) 9 (Clu.decH awH)) 10 (Clu.decH (rdH vn vN vx vz))) 12 (Clu.decH (mayH my))))  
  (V0 : (n ≤ 2000) → (o ≤ 2000) → (m ≤ 2000) → ((my m M) = false) → ((vz ((n + m) + o) (Clu.catN (n + m) (Clu.catN n N M) O) a) = 0) → (vn ((n + m) + o) (Clu.catN (n + m) (Clu.catN n N M) O) a) < 9000000000000000000)
  (V1 : (n ≤ 2000) → (o ≤ 2000) → (m ≤ 2000) → ((my m M) = false) → ((vz ((n + m) + o) (Clu.catN (n + m) (Clu.catN n N M) O) a) = 0) → ((my (vn ((n + m) + o) (Clu.catN (n + m) (Clu.catN n N M) O) a) (vN ((n + m) + o) (Clu.catN (n + m) (Clu.catN n N M) O) a)) = false) → False)
  (V2 : (n ≤ 2000) → (o ≤ 2000) → (m ≤ 2000) → ((my m M) = false) → ((vz ((n + m) + o) (Clu.catN (n + m) (Clu.catN n N M) O) a) = 0) → ((my (vn ((n + m) + o) (Clu.catN (n + m) (Clu.catN n N M) O) a) (vN ((n + m) + o) (Clu.catN (n + m) (Clu.catN n N M) O) a)) = true) → ((((vx ((n + m) + o) (Clu.catN (n + m) (Clu.catN n N M) O) a) : Nat) : Int) ≤ a) → False)
  (V3 : (n ≤ 2000) → (o ≤ 2000) → (m ≤ 2000) → ((my m M) = false) → ((vz ((n + m) + o) (Clu.catN (n + m) (Clu.catN n N M) O) a) = 0) → ((my (vn ((n + m) + o) (Clu.catN (n + m) (Clu.catN n N M) O) a) (vN ((n + m) + o) (Clu.catN (n + m) (Clu.catN n N M) O) a)) = true) → (a < (((vx ((n + m) + o) (Clu.catN (n + m) (Clu.catN n N M) O) a) : Nat) : Int)) → (vx ((n + m) + o) (Clu.catN (n + m) (Clu.catN n N M) O) a) ≤ ((n + m) + o))
  (V4 : (n ≤ 2000) → (o ≤ 2000) → (m ≤ 2000) → ((my m M) = true) → ((vz ((n + m) + o) (Clu.catN (n + m) (Clu.catN n N M) O) (Int.ofNat n)) = 0) → ((Clu.eqNs (vn ((n + m) + o) (Clu.catN (n + m) (Clu.catN n N M) O) (Int.ofNat n)) (vN ((n + m) + o) (Clu.catN (n + m) (Clu.catN n N M) O) (Int.ofNat n)) m M) = true) → ((vx ((n + m) + o) (Clu.catN (n + m) (Clu.catN n N M) O) (Int.ofNat n)) = (n + m)) → ((vz ((n + m) + o) (Clu.catN (n + m) (Clu.catN n N M) O) a) = 0) → (vn ((n + m) + o) (Clu.catN (n + m) (Clu.catN n N M) O) a) < 9000000000000000000)
  (V5 : (n ≤ 2000) → (o ≤ 2000) → (m ≤ 2000) → ((my m M) = true) → ((vz ((n + m) + o) (Clu.catN (n + m) (Clu.catN n N M) O) (Int.ofNat n)) = 0) → ((Clu.eqNs (vn ((n + m) + o) (Clu.catN (n + m) (Clu.catN n N M) O) (Int.ofNat n)) (vN ((n + m) + o) (Clu.catN (n + m) (Clu.catN n N M) O) (Int.ofNat n)) m M) = true) → ((vx ((n + m) + o) (Clu.catN (n + m) (Clu.catN n N M) O) (Int.ofNat n)) = (n + m)) → ((vz ((n + m) + o) (Clu.catN (n + m) (Clu.catN n N M) O) a) = 0) → ((my (vn ((n + m) + o) (Clu.catN (n + m) (Clu.catN n N M) O) a) (vN ((n + m) + o) (Clu.catN (n + m) (Clu.catN n N M) O) a)) = false) → False)
  (V6 : (n ≤ 2000) → (o ≤ 2000) → (m ≤ 2000) → ((my m M) = true) → ((vz ((n + m) + o) (Clu.catN (n + m) (Clu.catN n N M) O) (Int.ofNat n)) = 0) → ((Clu.eqNs (vn ((n + m) + o) (Clu.catN (n + m) (Clu.catN n N M) O) (Int.ofNat n)) (vN ((n + m) + o) (Clu.catN (n + m) (Clu.catN n N M) O) (Int.ofNat n)) m M) = true) → ((vx ((n + m) + o) (Clu.catN (n + m) (Clu.catN n N M) O) (Int.ofNat n)) = (n + m)) → ((vz ((n + m) + o) (Clu.catN (n + m) (Clu.catN n N M) O) a) = 0) → ((my (vn ((n + m) + o) (Clu.catN (n + m) (Clu.catN n N M) O) a) (vN ((n + m) + o) (Clu.catN (n + m) (Clu.catN n N M) O) a)) = true) → ((((vx ((n + m) + o) (Clu.catN (n + m) (Clu.catN n N M) O) a) : Nat) : Int) ≤ a) → False)
  (V7 : (n ≤ 2000) → (o ≤ 2000) → (m ≤ 2000) → ((my m M) = true) → ((vz ((n + m) + o) (Clu.catN (n + m) (Clu.catN n N M) O) (Int.ofNat n)) = 0) → ((Clu.eqNs (vn ((n + m) + o) (Clu.catN (n + m) (Clu.catN n N M) O) (Int.ofNat n)) (vN ((n + m) + o) (Clu.catN (n + m) (Clu.catN n N M) O) (Int.ofNat n)) m M) = true) → ((vx ((n + m) + o) (Clu.catN (n + m) (Clu.catN n N M) O) (Int.ofNat n)) = (n + m)) → ((vz ((n + m) + o) (Clu.catN (n + m) (Clu.catN n N M) O) a) = 0) → ((my (vn ((n + m) + o) (Clu.catN (n + m) (Clu.catN n N M) O) a) (vN ((n + m) + o) (Clu.catN (n + m) (Clu.catN n N M) O) a)) = true) → (a < (((vx ((n + m) + o) (Clu.catN (n + m) (Clu.catN n N M) O) a) : Nat) : Int)) → (vx ((n + m) + o) (Clu.catN (n + m) (Clu.catN n N M) O) a) ≤ ((n + m) + o))
  (V8 : (n ≤ 2000) → (o ≤ 2000) → (m ≤ 2000) → ((my m M) = true) → ((vz ((n + m) + o) (Clu.catN (n + m) (Clu.catN n N M) O) (Int.ofNat n)) = 0) → ((Clu.eqNs (vn ((n + m) + o) (Clu.catN (n + m) (Clu.catN n N M) O) (Int.ofNat n)) (vN ((n + m) + o) (Clu.catN (n + m) (Clu.catN n N M) O) (Int.ofNat n)) m M) = true) → ((vx ((n + m) + o) (Clu.catN (n + m) (Clu.catN n N M) O) (Int.ofNat n)) ≠ (n + m)) → False)
  (V9 : (n ≤ 2000) → (o ≤ 2000) → (m ≤ 2000) → ((my m M) = true) → ((vz ((n + m) + o) (Clu.catN (n + m) (Clu.catN n N M) O) (Int.ofNat n)) = 0) → ((Clu.eqNs (vn ((n + m) + o) (Clu.catN (n + m) (Clu.catN n N M) O) (Int.ofNat n)) (vN ((n + m) + o) (Clu.catN (n + m) (Clu.catN n N M) O) (Int.ofNat n)) m M) = false) → False)
  (V10 : (n ≤ 2000) → (o ≤ 2000) → (m ≤ 2000) → ((my m M) = true) → ((vz ((n + m) + o) (Clu.catN (n + m) (Clu.catN n N M) O) (Int.ofNat n)) ≠ 0) → False) : Clu.Fact Try.prog 5 [] [.s n N, .s m M, .s o O, .i .i64 a] (.b true) :=
  Clu.factL Clu.plain (Clu.tell_ok (hX)) Clu.mixed (Clu.noL_ok) (asF_run vn vN vx vz my n N m M o O a hX V0 V1 V2 V3 V4 V5 V6 V7 V8 V9 V10) rfl rfl
set_option maxRecDepth 10000000 in
theorem runsA : (Clu.layK [] .e fun h => Clu.runF Try.prog Clu.noX 1000000 1000 9 [] h 1000) = .ok (.b true) := by kernel_rfl
theorem awH_ok : Clu.HandOK Try.prog 9 (Clu.decH awH) := Clu.decH_ok fun args v h => by
  unfold awH at h
  split at h
  · have h : Clu.AV.b true = v := h
    subst h
    exact Clu.fact_of Clu.plain Clu.noX_ok Clu.mixed runsA (by kernel_rfl) (by kernel_rfl)
  · exact h.elim
noncomputable def vnF (n N : Nat) (a : Int) : Nat := (rdV (Clu.lst n N) a).1.length
noncomputable def vNF (n N : Nat) (a : Int) : Nat := Clu.pk (rdV (Clu.lst n N) a).1
noncomputable def vxF (n N : Nat) (a : Int) : Nat := (rdV (Clu.lst n N) a).2.1
noncomputable def vzF (n N : Nat) (a : Int) : Nat := (rdV (Clu.lst n N) a).2.2
theorem rdH_ok {f : FuncId} (hF : ∀ l, Clu.B8 l → l.length ≤ 10000 → ∀ a : Int, Clu.Fact Try.prog f [] [.s l.length (Clu.pk l), .i .i64 a] (.tu (vOut (rdV l a)))) : Clu.HandOK Try.prog f (Clu.decH (rdH vnF vNF vxF vzF)) := Clu.decH_ok fun args v h => by
  unfold rdH at h
  split at h
  · rename_i n N a
    obtain ⟨h1, h2⟩ := h
    have h2 : Clu.AV.tu (vOut (rdV (Clu.lst n N) a)) = v := h2
    subst h2
    have h1 := Clu.blt_iff.1 h1
    refine (hF _ (Clu.lst_b8 n N) (by rw [Clu.lst_length]; omega) a).of rfl fun r xs ⟨x, ys, h1, h2, h3⟩ => ⟨x, ys, h1, Clu.VR.lst.1 h2, h3⟩
  · exact h.elim
theorem asX_ok : Clu.XOK Try.prog (Clu.addB (Clu.addB (Clu.addB (Clu.noX) 9 (Clu.decH awH)) 10 (Clu.decH (rdH vnF vNF vxF vzF))) 12 (Clu.decH (mayH myF))) := Clu.addB_ok (Clu.addB_ok (Clu.addB_ok Clu.noX_ok awH_ok) (rdH_ok fun l h k a => read_fact h k a)) mayH_ok
theorem law_fact (l : List Nat) (hL : Clu.B8 l) (ll : l.length ≤ maxLen) (m : List Nat) (hM : Clu.B8 m) (lm : m.length ≤ maxLen) (o : List Nat) (hO : Clu.B8 o) (lo : o.length ≤ maxLen) (a : Int) (h1 : -9223372036854775808 ≤ a) (h2 : a ≤ 9223372036854775807) : Clu.Fact Try.prog 5 [] [.s l.length (Clu.pk l), .s m.length (Clu.pk m), .s o.length (Clu.pk o), .i .i64 a] (.b true) := by
  have hT : Clu.B8 (l ++ m ++ o) := (hL.app hM).app hO
  have hlen : l.length + m.length + o.length = (l ++ m ++ o).length := by simp only [List.length_append]
  have hcat : Clu.catN (l.length + m.length) (Clu.catN l.length (Clu.pk l) (Clu.pk m)) (Clu.pk o) = Clu.pk (l ++ m ++ o) := by
    rw [catN_pk, ← List.length_append, catN_pk]
  have E1 : ∀ b : Int, vnF (l.length + m.length + o.length) (Clu.catN (l.length + m.length) (Clu.catN l.length (Clu.pk l) (Clu.pk m)) (Clu.pk o)) b = (rdV (l ++ m ++ o) b).1.length := fun b => by unfold vnF; rw [hcat, hlen, Clu.lst_pk hT]
  have E2 : ∀ b : Int, vNF (l.length + m.length + o.length) (Clu.catN (l.length + m.length) (Clu.catN l.length (Clu.pk l) (Clu.pk m)) (Clu.pk o)) b = Clu.pk (rdV (l ++ m ++ o) b).1 := fun b => by unfold vNF; rw [hcat, hlen, Clu.lst_pk hT]
  have E3 : ∀ b : Int, vxF (l.length + m.length + o.length) (Clu.catN (l.length + m.length) (Clu.catN l.length (Clu.pk l) (Clu.pk m)) (Clu.pk o)) b = (rdV (l ++ m ++ o) b).2.1 := fun b => by unfold vxF; rw [hcat, hlen, Clu.lst_pk hT]
  have E4 : ∀ b : Int, vzF (l.length + m.length + o.length) (Clu.catN (l.length + m.length) (Clu.catN l.length (Clu.pk l) (Clu.pk m)) (Clu.pk o)) b = (rdV (l ++ m ++ o) b).2.2 := fun b => by unfold vzF; rw [hcat, hlen, Clu.lst_pk hT]
  have R : (rdV (l ++ m ++ o) a).2.2 = 0 → (rdV (l ++ m ++ o) a).1.length < 9000000000000000000 ∧ myF (rdV (l ++ m ++ o) a).1.length (Clu.pk (rdV (l ++ m ++ o) a).1) = true ∧ a < ((rdV (l ++ m ++ o) a).2.1 : Int) ∧ (rdV (l ++ m ++ o) a).2.1 ≤ l.length + m.length + o.length := fun h => by
    obtain ⟨q1, q2, q3⟩ := rdV_name h
    obtain ⟨L, e, oL, hL2⟩ := mayB_iff.1 q1
    have q8 := rdV_b8 hT a
    exact ⟨by omega, (myF_pk q8).trans q1, q2, by rw [hlen]; exact Int.ofNat_le.1 q3⟩
  have W : myF m.length (Clu.pk m) = true → rdV (l ++ m ++ o) (Int.ofNat l.length) = (m, l.length + m.length, 0) := fun h => rdV_wire ((myF_pk hM).symm.trans h)
  refine asF_law vnF vNF vxF vzF myF _ _ _ _ _ _ _ asX_ok ?_ ?_ ?_ ?_ ?_ ?_ ?_ ?_ ?_ ?_ ?_
  all_goals simp only [E1, E2, E3, E4]
  · intro _ _ _ _ h; exact (R h).1
  · intro _ _ _ _ h k; rw [(R h).2.1] at k; cases k
  · intro _ _ _ _ h _ k; have := (R h).2.2.1; omega
  · intro _ _ _ _ h _ _; exact (R h).2.2.2
  · intro _ _ _ _ _ _ _ h; exact (R h).1
  · intro _ _ _ _ _ _ _ h k; rw [(R h).2.1] at k; cases k
  · intro _ _ _ _ _ _ _ h _ k; have := (R h).2.2.1; omega
  · intro _ _ _ _ _ _ _ h _ _; exact (R h).2.2.2
  · intro _ _ _ h _ _ k; rw [W h] at k; exact k rfl
  · intro _ _ _ h _ k
    rw [W h, Clu.eqNs_iff hM hM, decide_eq_true rfl] at k
    cases k
  · intro _ _ _ h k; rw [W h] at k; exact k rfl

end Go.Proofs.Ythghohgjedjpbaa.compAs
