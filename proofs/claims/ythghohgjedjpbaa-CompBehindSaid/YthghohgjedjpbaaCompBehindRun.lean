/-
  CompBehind: what it comes to.
-/
import Derived.Test.YthghohgjedjpbaaCompBehindBase
import Derived.Test.YthghohgjedjpbaaBeA
namespace Go.Proofs.Ythghohgjedjpbaa.compBehind
open Go.RowKit
set_option linter.unusedVariables false
set_option linter.unusedSimpArgs false
set_option maxRecDepth 100000

noncomputable def awH : List Clu.AV → Clu.Dec Clu.AV := fun args => match args with
  | [] => .leaf (.b true)
  | _ => .fail
noncomputable def rdH (vn vN vx vz : Nat → Nat → Int → Nat) : List Clu.AV → Clu.Dec Clu.AV := fun args => match args with
  | [.s n N, .i .i64 a] => .need (Nat.blt n 10001) (.leaf (.tu [.s (vn n N a) (vN n N a), .i .i64 (.ofNat (vx n N a)), .i .i64 (.ofNat (vz n N a))]))
  | _ => .fail

set_option maxRecDepth 10000000 in
theorem beF_raw (vn vN vx vz : Nat → Nat → Int → Nat) (my : Nat → Nat → Bool) (n N m M : Nat) (a c : Int) : (Clu.layK [] .e fun h => Clu.runL (Clu.noL) Try.prog (Clu.tell (Clu.addB (Clu.addB (Clu.addB (Clu.noX) 9 (Clu.decH awH)) 10 (Clu.decH (rdH vn vN vx vz))) 12 (Clu.decH (mayH my))) 4 300022430002063000192300018430001743000150300014030001303000120300011030000803000074300005430000483000038) (1000) 1000 4 [.s n N, .i .i64 a, .s m M, .i .i64 c] h 1000) = Clu.forkB ((Clu.iLt (Int.ofNat 3000) (Int.ofNat n))) (Clu.forkB ((Clu.iLt (Int.ofNat 3000) (Int.ofNat m))) (Clu.needT ((Nat.blt n 10001)) (.err 96 1) (Clu.forkB ((Bool.not (Clu.iEq (Int.ofNat (vz n N a)) (Int.ofNat 0)))) (Clu.needT ((Nat.blt (n + m) 9223372036854775808)) (.err 10 5) (Clu.needT ((Nat.blt (n + m) 10001)) (.err 96 1) (Clu.forkB ((Bool.not (Clu.iEq (Int.ofNat (vz (n + m) (Clu.catN n N M) a)) (Int.ofNat 0)))) (Clu.forkB ((Bool.not (Clu.eqNs (vn (n + m) (Clu.catN n N M) a) (vN (n + m) (Clu.catN n N M) a) (vn n N a) (vN n N a)))) (Clu.forkB ((Bool.not (Clu.iEq (Int.ofNat (vx (n + m) (Clu.catN n N M) a)) (Int.ofNat (vx n N a))))) (Clu.forkB ((Bool.not (Clu.iLt a (Int.ofNat (vx n N a))))) (Clu.forkB ((Clu.iLt (Int.ofNat n) (Int.ofNat (vx n N a)))) (Clu.needT ((Nat.ble (vx n N a) n)) (.err 20 0) (Clu.needT ((Nat.blt ((vx n N a) - 0) 10001)) (.err 96 1) (Clu.forkB ((Bool.not (Clu.iEq (Int.ofNat (vz ((vx n N a) - 0) (Clu.maskN ((vx n N a) - 0) (Nat.shiftRight N 0)) a)) (Int.ofNat 0)))) (Clu.forkB ((Bool.not (Clu.eqNs (vn ((vx n N a) - 0) (Clu.maskN ((vx n N a) - 0) (Nat.shiftRight N 0)) a) (vN ((vx n N a) - 0) (Clu.maskN ((vx n N a) - 0) (Nat.shiftRight N 0)) a) (vn n N a) (vN n N a)))) (Clu.forkB ((Bool.not (Clu.iEq (Int.ofNat (vx ((vx n N a) - 0) (Clu.maskN ((vx n N a) - 0) (Nat.shiftRight N 0)) a)) (Int.ofNat (vx n N a))))) (Clu.needT ((Nat.ble (vx n N a) n)) (.err 20 0) (Clu.needI (a) (fun _ => .err 20 1) (fun n583 => Clu.needT ((Nat.ble n583 (vx n N a))) (.err 20 0) (Clu.forkB ((Bool.not (Clu.eqNs ((vx n N a) - n583) (Clu.maskN ((vx n N a) - n583) (Nat.shiftRight N (8 * n583))) (vn n N a) (vN n N a)))) (Clu.needT ((Clu.inR IntKind.i64 ((Int.ofNat (vx n N a)) - a))) (.err 10 20) (Clu.needF ((Clu.iEq (Int.ofNat (Clu.modN ((Int.ofNat (vx n N a)) - a) 18446744073709551616)) (Int.ofNat 0))) (.err 10 2) (Clu.needT ((Clu.inR IntKind.i64 (Int.ofNat ((Clu.modN c 18446744073709551616) % (Clu.modN ((Int.ofNat (vx n N a)) - a) 18446744073709551616))))) (.err 10 20) (Clu.needT ((Clu.inR IntKind.i64 (a + (Int.ofNat ((Clu.modN c 18446744073709551616) % (Clu.modN ((Int.ofNat (vx n N a)) - a) 18446744073709551616)))))) (.err 10 20) (Clu.needI ((a + (Int.ofNat ((Clu.modN c 18446744073709551616) % (Clu.modN ((Int.ofNat (vx n N a)) - a) 18446744073709551616))))) (fun _ => .err 20 1) (fun n576 => Clu.needT ((Nat.ble n576 n)) (.err 20 0) (Clu.needT ((Nat.blt (n576 - 0) 10001)) (.err 96 1) ((Clu.Out.ok (Clu.AV.b (Clu.iEq (Int.ofNat (vz (n576 - 0) (Clu.maskN (n576 - 0) (Nat.shiftRight N 0)) a)) (Int.ofNat 4)))))))))))) ((Clu.Out.ok (Clu.AV.b true))))))) (Clu.needT ((Clu.inR IntKind.i64 ((Int.ofNat (vx n N a)) - a))) (.err 10 20) (Clu.forkB ((Bool.not (Clu.iEq (Int.ofNat (vn n N a)) ((Int.ofNat (vx n N a)) - a)))) ((Clu.Out.ok (Clu.AV.b false))) ((Clu.Out.ok (Clu.AV.b (Clu.iEq (Int.ofNat (vz ((vx n N a) - 0) (Clu.maskN ((vx n N a) - 0) (Nat.shiftRight N 0)) a)) (Int.ofNat 4)))))))) (Clu.needT ((Clu.inR IntKind.i64 ((Int.ofNat (vx n N a)) - a))) (.err 10 20) (Clu.forkB ((Bool.not (Clu.iEq (Int.ofNat (vn n N a)) ((Int.ofNat (vx n N a)) - a)))) ((Clu.Out.ok (Clu.AV.b false))) ((Clu.Out.ok (Clu.AV.b (Clu.iEq (Int.ofNat (vz ((vx n N a) - 0) (Clu.maskN ((vx n N a) - 0) (Nat.shiftRight N 0)) a)) (Int.ofNat 4)))))))) (Clu.needT ((Clu.inR IntKind.i64 ((Int.ofNat (vx n N a)) - a))) (.err 10 20) (Clu.forkB ((Bool.not (Clu.iEq (Int.ofNat (vn n N a)) ((Int.ofNat (vx n N a)) - a)))) ((Clu.Out.ok (Clu.AV.b false))) ((Clu.Out.ok (Clu.AV.b (Clu.iEq (Int.ofNat (vz ((vx n N a) - 0) (Clu.maskN ((vx n N a) - 0) (Nat.shiftRight N 0)) a)) (Int.ofNat 4)))))))))) ((Clu.Out.ok (Clu.AV.b false)))) ((Clu.Out.ok (Clu.AV.b false)))) ((Clu.Out.ok (Clu.AV.b false)))) ((Clu.Out.ok (Clu.AV.b false)))) ((Clu.Out.ok (Clu.AV.b false)))))) (Clu.forkB ((Clu.eqNs (vn n N a) (vN n N a) 0 0)) ((Clu.Out.ok (Clu.AV.b false))) ((Clu.Out.ok (Clu.AV.b (Clu.iEq (Int.ofNat (vx n N a)) (Int.ofNat 0)))))))) ((Clu.Out.ok (Clu.AV.b true)))) ((Clu.Out.ok (Clu.AV.b true))) := by kernel_rfl
set_option linter.unusedVariables false in
theorem beF_run (vn vN vx vz : Nat → Nat → Int → Nat) (my : Nat → Nat → Bool) (n N m M : Nat) (a c : Int) (hX : Clu.XOK Try.prog (Clu.addB (Clu.addB (Clu.addB (Clu.noX) 9 (Clu.decH awH)) 10 (Clu.decH (rdH vn vN vx vz))) 12 (Clu.decH (mayH my))))  
  (V0 : (n ≤ 3000) → (m ≤ 3000) → ((vz n N a) = 0) → ((vz (n + m) (Clu.catN n N M) a) = 0) → ((Clu.eqNs (vn (n + m) (Clu.catN n N M) a) (vN (n + m) (Clu.catN n N M) a) (vn n N a) (vN n N a)) = true) → ((vx (n + m) (Clu.catN n N M) a) = (vx n N a)) → (a < (((vx n N a) : Nat) : Int)) → ((vx n N a) ≤ n) → (vx n N a) ≤ n)
  (V1 : (n ≤ 3000) → (m ≤ 3000) → ((vz n N a) = 0) → ((vz (n + m) (Clu.catN n N M) a) = 0) → ((Clu.eqNs (vn (n + m) (Clu.catN n N M) a) (vN (n + m) (Clu.catN n N M) a) (vn n N a) (vN n N a)) = true) → ((vx (n + m) (Clu.catN n N M) a) = (vx n N a)) → (a < (((vx n N a) : Nat) : Int)) → ((vx n N a) ≤ n) → ((vx n N a) - 0) < 10001)
  (V2 : (n ≤ 3000) → (m ≤ 3000) → ((vz n N a) = 0) → ((vz (n + m) (Clu.catN n N M) a) = 0) → ((Clu.eqNs (vn (n + m) (Clu.catN n N M) a) (vN (n + m) (Clu.catN n N M) a) (vn n N a) (vN n N a)) = true) → ((vx (n + m) (Clu.catN n N M) a) = (vx n N a)) → (a < (((vx n N a) : Nat) : Int)) → ((vx n N a) ≤ n) → ((vz ((vx n N a) - 0) (Clu.maskN ((vx n N a) - 0) (Nat.shiftRight N 0)) a) = 0) → ((Clu.eqNs (vn ((vx n N a) - 0) (Clu.maskN ((vx n N a) - 0) (Nat.shiftRight N 0)) a) (vN ((vx n N a) - 0) (Clu.maskN ((vx n N a) - 0) (Nat.shiftRight N 0)) a) (vn n N a) (vN n N a)) = true) → ((vx ((vx n N a) - 0) (Clu.maskN ((vx n N a) - 0) (Nat.shiftRight N 0)) a) = (vx n N a)) → (vx n N a) ≤ n)
  (V3 : (n ≤ 3000) → (m ≤ 3000) → ((vz n N a) = 0) → ((vz (n + m) (Clu.catN n N M) a) = 0) → ((Clu.eqNs (vn (n + m) (Clu.catN n N M) a) (vN (n + m) (Clu.catN n N M) a) (vn n N a) (vN n N a)) = true) → ((vx (n + m) (Clu.catN n N M) a) = (vx n N a)) → (a < (((vx n N a) : Nat) : Int)) → ((vx n N a) ≤ n) → ((vz ((vx n N a) - 0) (Clu.maskN ((vx n N a) - 0) (Nat.shiftRight N 0)) a) = 0) → ((Clu.eqNs (vn ((vx n N a) - 0) (Clu.maskN ((vx n N a) - 0) (Nat.shiftRight N 0)) a) (vN ((vx n N a) - 0) (Clu.maskN ((vx n N a) - 0) (Nat.shiftRight N 0)) a) (vn n N a) (vN n N a)) = true) → ((vx ((vx n N a) - 0) (Clu.maskN ((vx n N a) - 0) (Nat.shiftRight N 0)) a) = (vx n N a)) → ∃ x : Nat, a = Int.ofNat x)
  (V4 : (n ≤ 3000) → (m ≤ 3000) → ((vz n N a) = 0) → ((vz (n + m) (Clu.catN n N M) a) = 0) → ((Clu.eqNs (vn (n + m) (Clu.catN n N M) a) (vN (n + m) (Clu.catN n N M) a) (vn n N a) (vN n N a)) = true) → ((vx (n + m) (Clu.catN n N M) a) = (vx n N a)) → (a < (((vx n N a) : Nat) : Int)) → ((vx n N a) ≤ n) → ((vz ((vx n N a) - 0) (Clu.maskN ((vx n N a) - 0) (Nat.shiftRight N 0)) a) = 0) → ((Clu.eqNs (vn ((vx n N a) - 0) (Clu.maskN ((vx n N a) - 0) (Nat.shiftRight N 0)) a) (vN ((vx n N a) - 0) (Clu.maskN ((vx n N a) - 0) (Nat.shiftRight N 0)) a) (vn n N a) (vN n N a)) = true) → ((vx ((vx n N a) - 0) (Clu.maskN ((vx n N a) - 0) (Nat.shiftRight N 0)) a) = (vx n N a)) → ∀ n583 : Nat, (a = Int.ofNat n583) → n583 ≤ (vx n N a))
  (V5 : (n ≤ 3000) → (m ≤ 3000) → ((vz n N a) = 0) → ((vz (n + m) (Clu.catN n N M) a) = 0) → ((Clu.eqNs (vn (n + m) (Clu.catN n N M) a) (vN (n + m) (Clu.catN n N M) a) (vn n N a) (vN n N a)) = true) → ((vx (n + m) (Clu.catN n N M) a) = (vx n N a)) → (a < (((vx n N a) : Nat) : Int)) → ((vx n N a) ≤ n) → ((vz ((vx n N a) - 0) (Clu.maskN ((vx n N a) - 0) (Nat.shiftRight N 0)) a) = 0) → ((Clu.eqNs (vn ((vx n N a) - 0) (Clu.maskN ((vx n N a) - 0) (Nat.shiftRight N 0)) a) (vN ((vx n N a) - 0) (Clu.maskN ((vx n N a) - 0) (Nat.shiftRight N 0)) a) (vn n N a) (vN n N a)) = true) → ((vx ((vx n N a) - 0) (Clu.maskN ((vx n N a) - 0) (Nat.shiftRight N 0)) a) = (vx n N a)) → ∀ n583 : Nat, (a = Int.ofNat n583) → ((Clu.eqNs ((vx n N a) - n583) (Clu.maskN ((vx n N a) - n583) (Nat.shiftRight N (8 * n583))) (vn n N a) (vN n N a)) = true) → -9223372036854775808 ≤ ((((vx n N a) : Nat) : Int) - a) ∧ ((((vx n N a) : Nat) : Int) - a) < 9223372036854775808)
  (V6 : (n ≤ 3000) → (m ≤ 3000) → ((vz n N a) = 0) → ((vz (n + m) (Clu.catN n N M) a) = 0) → ((Clu.eqNs (vn (n + m) (Clu.catN n N M) a) (vN (n + m) (Clu.catN n N M) a) (vn n N a) (vN n N a)) = true) → ((vx (n + m) (Clu.catN n N M) a) = (vx n N a)) → (a < (((vx n N a) : Nat) : Int)) → ((vx n N a) ≤ n) → ((vz ((vx n N a) - 0) (Clu.maskN ((vx n N a) - 0) (Nat.shiftRight N 0)) a) = 0) → ((Clu.eqNs (vn ((vx n N a) - 0) (Clu.maskN ((vx n N a) - 0) (Nat.shiftRight N 0)) a) (vN ((vx n N a) - 0) (Clu.maskN ((vx n N a) - 0) (Nat.shiftRight N 0)) a) (vn n N a) (vN n N a)) = true) → ((vx ((vx n N a) - 0) (Clu.maskN ((vx n N a) - 0) (Nat.shiftRight N 0)) a) = (vx n N a)) → ∀ n583 : Nat, (a = Int.ofNat n583) → ((Clu.eqNs ((vx n N a) - n583) (Clu.maskN ((vx n N a) - n583) (Nat.shiftRight N (8 * n583))) (vn n N a) (vN n N a)) = true) → (Clu.modN ((Int.ofNat (vx n N a)) - a) 18446744073709551616) ≠ 0)
  (V7 : (n ≤ 3000) → (m ≤ 3000) → ((vz n N a) = 0) → ((vz (n + m) (Clu.catN n N M) a) = 0) → ((Clu.eqNs (vn (n + m) (Clu.catN n N M) a) (vN (n + m) (Clu.catN n N M) a) (vn n N a) (vN n N a)) = true) → ((vx (n + m) (Clu.catN n N M) a) = (vx n N a)) → (a < (((vx n N a) : Nat) : Int)) → ((vx n N a) ≤ n) → ((vz ((vx n N a) - 0) (Clu.maskN ((vx n N a) - 0) (Nat.shiftRight N 0)) a) = 0) → ((Clu.eqNs (vn ((vx n N a) - 0) (Clu.maskN ((vx n N a) - 0) (Nat.shiftRight N 0)) a) (vN ((vx n N a) - 0) (Clu.maskN ((vx n N a) - 0) (Nat.shiftRight N 0)) a) (vn n N a) (vN n N a)) = true) → ((vx ((vx n N a) - 0) (Clu.maskN ((vx n N a) - 0) (Nat.shiftRight N 0)) a) = (vx n N a)) → ∀ n583 : Nat, (a = Int.ofNat n583) → ((Clu.eqNs ((vx n N a) - n583) (Clu.maskN ((vx n N a) - n583) (Nat.shiftRight N (8 * n583))) (vn n N a) (vN n N a)) = true) → ((Clu.modN c 18446744073709551616) % (Clu.modN ((Int.ofNat (vx n N a)) - a) 18446744073709551616)) < 9223372036854775808)
  (V8 : (n ≤ 3000) → (m ≤ 3000) → ((vz n N a) = 0) → ((vz (n + m) (Clu.catN n N M) a) = 0) → ((Clu.eqNs (vn (n + m) (Clu.catN n N M) a) (vN (n + m) (Clu.catN n N M) a) (vn n N a) (vN n N a)) = true) → ((vx (n + m) (Clu.catN n N M) a) = (vx n N a)) → (a < (((vx n N a) : Nat) : Int)) → ((vx n N a) ≤ n) → ((vz ((vx n N a) - 0) (Clu.maskN ((vx n N a) - 0) (Nat.shiftRight N 0)) a) = 0) → ((Clu.eqNs (vn ((vx n N a) - 0) (Clu.maskN ((vx n N a) - 0) (Nat.shiftRight N 0)) a) (vN ((vx n N a) - 0) (Clu.maskN ((vx n N a) - 0) (Nat.shiftRight N 0)) a) (vn n N a) (vN n N a)) = true) → ((vx ((vx n N a) - 0) (Clu.maskN ((vx n N a) - 0) (Nat.shiftRight N 0)) a) = (vx n N a)) → ∀ n583 : Nat, (a = Int.ofNat n583) → ((Clu.eqNs ((vx n N a) - n583) (Clu.maskN ((vx n N a) - n583) (Nat.shiftRight N (8 * n583))) (vn n N a) (vN n N a)) = true) → -9223372036854775808 ≤ (a + ((((Clu.modN c 18446744073709551616) % (Clu.modN ((Int.ofNat (vx n N a)) - a) 18446744073709551616)) : Nat) : Int)) ∧ (a + ((((Clu.modN c 18446744073709551616) % (Clu.modN ((Int.ofNat (vx n N a)) - a) 18446744073709551616)) : Nat) : Int)) < 9223372036854775808)
  (V9 : (n ≤ 3000) → (m ≤ 3000) → ((vz n N a) = 0) → ((vz (n + m) (Clu.catN n N M) a) = 0) → ((Clu.eqNs (vn (n + m) (Clu.catN n N M) a) (vN (n + m) (Clu.catN n N M) a) (vn n N a) (vN n N a)) = true) → ((vx (n + m) (Clu.catN n N M) a) = (vx n N a)) → (a < (((vx n N a) : Nat) : Int)) → ((vx n N a) ≤ n) → ((vz ((vx n N a) - 0) (Clu.maskN ((vx n N a) - 0) (Nat.shiftRight N 0)) a) = 0) → ((Clu.eqNs (vn ((vx n N a) - 0) (Clu.maskN ((vx n N a) - 0) (Nat.shiftRight N 0)) a) (vN ((vx n N a) - 0) (Clu.maskN ((vx n N a) - 0) (Nat.shiftRight N 0)) a) (vn n N a) (vN n N a)) = true) → ((vx ((vx n N a) - 0) (Clu.maskN ((vx n N a) - 0) (Nat.shiftRight N 0)) a) = (vx n N a)) → ∀ n583 : Nat, (a = Int.ofNat n583) → ((Clu.eqNs ((vx n N a) - n583) (Clu.maskN ((vx n N a) - n583) (Nat.shiftRight N (8 * n583))) (vn n N a) (vN n N a)) = true) → ∃ x : Nat, (a + (Int.ofNat ((Clu.modN c 18446744073709551616) % (Clu.modN ((Int.ofNat (vx n N a)) - a) 18446744073709551616)))) = Int.ofNat x)
  (V10 : (n ≤ 3000) → (m ≤ 3000) → ((vz n N a) = 0) → ((vz (n + m) (Clu.catN n N M) a) = 0) → ((Clu.eqNs (vn (n + m) (Clu.catN n N M) a) (vN (n + m) (Clu.catN n N M) a) (vn n N a) (vN n N a)) = true) → ((vx (n + m) (Clu.catN n N M) a) = (vx n N a)) → (a < (((vx n N a) : Nat) : Int)) → ((vx n N a) ≤ n) → ((vz ((vx n N a) - 0) (Clu.maskN ((vx n N a) - 0) (Nat.shiftRight N 0)) a) = 0) → ((Clu.eqNs (vn ((vx n N a) - 0) (Clu.maskN ((vx n N a) - 0) (Nat.shiftRight N 0)) a) (vN ((vx n N a) - 0) (Clu.maskN ((vx n N a) - 0) (Nat.shiftRight N 0)) a) (vn n N a) (vN n N a)) = true) → ((vx ((vx n N a) - 0) (Clu.maskN ((vx n N a) - 0) (Nat.shiftRight N 0)) a) = (vx n N a)) → ∀ n583 : Nat, (a = Int.ofNat n583) → ((Clu.eqNs ((vx n N a) - n583) (Clu.maskN ((vx n N a) - n583) (Nat.shiftRight N (8 * n583))) (vn n N a) (vN n N a)) = true) → ∀ n576 : Nat, ((a + (Int.ofNat ((Clu.modN c 18446744073709551616) % (Clu.modN ((Int.ofNat (vx n N a)) - a) 18446744073709551616)))) = Int.ofNat n576) → n576 ≤ n)
  (V11 : (n ≤ 3000) → (m ≤ 3000) → ((vz n N a) = 0) → ((vz (n + m) (Clu.catN n N M) a) = 0) → ((Clu.eqNs (vn (n + m) (Clu.catN n N M) a) (vN (n + m) (Clu.catN n N M) a) (vn n N a) (vN n N a)) = true) → ((vx (n + m) (Clu.catN n N M) a) = (vx n N a)) → (a < (((vx n N a) : Nat) : Int)) → ((vx n N a) ≤ n) → ((vz ((vx n N a) - 0) (Clu.maskN ((vx n N a) - 0) (Nat.shiftRight N 0)) a) = 0) → ((Clu.eqNs (vn ((vx n N a) - 0) (Clu.maskN ((vx n N a) - 0) (Nat.shiftRight N 0)) a) (vN ((vx n N a) - 0) (Clu.maskN ((vx n N a) - 0) (Nat.shiftRight N 0)) a) (vn n N a) (vN n N a)) = true) → ((vx ((vx n N a) - 0) (Clu.maskN ((vx n N a) - 0) (Nat.shiftRight N 0)) a) = (vx n N a)) → ∀ n583 : Nat, (a = Int.ofNat n583) → ((Clu.eqNs ((vx n N a) - n583) (Clu.maskN ((vx n N a) - n583) (Nat.shiftRight N (8 * n583))) (vn n N a) (vN n N a)) = true) → ∀ n576 : Nat, ((a + (Int.ofNat ((Clu.modN c 18446744073709551616) % (Clu.modN ((Int.ofNat (vx n N a)) - a) 18446744073709551616)))) = Int.ofNat n576) → (n576 - 0) < 10001)
  (V12 : (n ≤ 3000) → (m ≤ 3000) → ((vz n N a) = 0) → ((vz (n + m) (Clu.catN n N M) a) = 0) → ((Clu.eqNs (vn (n + m) (Clu.catN n N M) a) (vN (n + m) (Clu.catN n N M) a) (vn n N a) (vN n N a)) = true) → ((vx (n + m) (Clu.catN n N M) a) = (vx n N a)) → (a < (((vx n N a) : Nat) : Int)) → ((vx n N a) ≤ n) → ((vz ((vx n N a) - 0) (Clu.maskN ((vx n N a) - 0) (Nat.shiftRight N 0)) a) = 0) → ((Clu.eqNs (vn ((vx n N a) - 0) (Clu.maskN ((vx n N a) - 0) (Nat.shiftRight N 0)) a) (vN ((vx n N a) - 0) (Clu.maskN ((vx n N a) - 0) (Nat.shiftRight N 0)) a) (vn n N a) (vN n N a)) = true) → ((vx ((vx n N a) - 0) (Clu.maskN ((vx n N a) - 0) (Nat.shiftRight N 0)) a) = (vx n N a)) → ∀ n583 : Nat, (a = Int.ofNat n583) → ((Clu.eqNs ((vx n N a) - n583) (Clu.maskN ((vx n N a) - n583) (Nat.shiftRight N (8 * n583))) (vn n N a) (vN n N a)) = true) → ∀ n576 : Nat, ((a + (Int.ofNat ((Clu.modN c 18446744073709551616) % (Clu.modN ((Int.ofNat (vx n N a)) - a) 18446744073709551616)))) = Int.ofNat n576) → (vz (n576 - 0) (Clu.maskN (n576 - 0) (Nat.shiftRight N 0)) a) = 4)
  (V13 : (n ≤ 3000) → (m ≤ 3000) → ((vz n N a) = 0) → ((vz (n + m) (Clu.catN n N M) a) = 0) → ((Clu.eqNs (vn (n + m) (Clu.catN n N M) a) (vN (n + m) (Clu.catN n N M) a) (vn n N a) (vN n N a)) = true) → ((vx (n + m) (Clu.catN n N M) a) = (vx n N a)) → (a < (((vx n N a) : Nat) : Int)) → ((vx n N a) ≤ n) → ((vz ((vx n N a) - 0) (Clu.maskN ((vx n N a) - 0) (Nat.shiftRight N 0)) a) = 0) → ((Clu.eqNs (vn ((vx n N a) - 0) (Clu.maskN ((vx n N a) - 0) (Nat.shiftRight N 0)) a) (vN ((vx n N a) - 0) (Clu.maskN ((vx n N a) - 0) (Nat.shiftRight N 0)) a) (vn n N a) (vN n N a)) = true) → ((vx ((vx n N a) - 0) (Clu.maskN ((vx n N a) - 0) (Nat.shiftRight N 0)) a) ≠ (vx n N a)) → -9223372036854775808 ≤ ((((vx n N a) : Nat) : Int) - a) ∧ ((((vx n N a) : Nat) : Int) - a) < 9223372036854775808)
  (V14 : (n ≤ 3000) → (m ≤ 3000) → ((vz n N a) = 0) → ((vz (n + m) (Clu.catN n N M) a) = 0) → ((Clu.eqNs (vn (n + m) (Clu.catN n N M) a) (vN (n + m) (Clu.catN n N M) a) (vn n N a) (vN n N a)) = true) → ((vx (n + m) (Clu.catN n N M) a) = (vx n N a)) → (a < (((vx n N a) : Nat) : Int)) → ((vx n N a) ≤ n) → ((vz ((vx n N a) - 0) (Clu.maskN ((vx n N a) - 0) (Nat.shiftRight N 0)) a) = 0) → ((Clu.eqNs (vn ((vx n N a) - 0) (Clu.maskN ((vx n N a) - 0) (Nat.shiftRight N 0)) a) (vN ((vx n N a) - 0) (Clu.maskN ((vx n N a) - 0) (Nat.shiftRight N 0)) a) (vn n N a) (vN n N a)) = true) → ((vx ((vx n N a) - 0) (Clu.maskN ((vx n N a) - 0) (Nat.shiftRight N 0)) a) ≠ (vx n N a)) → ((((vn n N a) : Nat) : Int) = ((((vx n N a) : Nat) : Int) - a)) → False)
  (V15 : (n ≤ 3000) → (m ≤ 3000) → ((vz n N a) = 0) → ((vz (n + m) (Clu.catN n N M) a) = 0) → ((Clu.eqNs (vn (n + m) (Clu.catN n N M) a) (vN (n + m) (Clu.catN n N M) a) (vn n N a) (vN n N a)) = true) → ((vx (n + m) (Clu.catN n N M) a) = (vx n N a)) → (a < (((vx n N a) : Nat) : Int)) → ((vx n N a) ≤ n) → ((vz ((vx n N a) - 0) (Clu.maskN ((vx n N a) - 0) (Nat.shiftRight N 0)) a) = 0) → ((Clu.eqNs (vn ((vx n N a) - 0) (Clu.maskN ((vx n N a) - 0) (Nat.shiftRight N 0)) a) (vN ((vx n N a) - 0) (Clu.maskN ((vx n N a) - 0) (Nat.shiftRight N 0)) a) (vn n N a) (vN n N a)) = true) → ((vx ((vx n N a) - 0) (Clu.maskN ((vx n N a) - 0) (Nat.shiftRight N 0)) a) ≠ (vx n N a)) → ((((vn n N a) : Nat) : Int) ≠ ((((vx n N a) : Nat) : Int) - a)) → (vz ((vx n N a) - 0) (Clu.maskN ((vx n N a) - 0) (Nat.shiftRight N 0)) a) = 4)
  (V16 : (n ≤ 3000) → (m ≤ 3000) → ((vz n N a) = 0) → ((vz (n + m) (Clu.catN n N M) a) = 0) → ((Clu.eqNs (vn (n + m) (Clu.catN n N M) a) (vN (n + m) (Clu.catN n N M) a) (vn n N a) (vN n N a)) = true) → ((vx (n + m) (Clu.catN n N M) a) = (vx n N a)) → (a < (((vx n N a) : Nat) : Int)) → ((vx n N a) ≤ n) → ((vz ((vx n N a) - 0) (Clu.maskN ((vx n N a) - 0) (Nat.shiftRight N 0)) a) = 0) → ((Clu.eqNs (vn ((vx n N a) - 0) (Clu.maskN ((vx n N a) - 0) (Nat.shiftRight N 0)) a) (vN ((vx n N a) - 0) (Clu.maskN ((vx n N a) - 0) (Nat.shiftRight N 0)) a) (vn n N a) (vN n N a)) = false) → -9223372036854775808 ≤ ((((vx n N a) : Nat) : Int) - a) ∧ ((((vx n N a) : Nat) : Int) - a) < 9223372036854775808)
  (V17 : (n ≤ 3000) → (m ≤ 3000) → ((vz n N a) = 0) → ((vz (n + m) (Clu.catN n N M) a) = 0) → ((Clu.eqNs (vn (n + m) (Clu.catN n N M) a) (vN (n + m) (Clu.catN n N M) a) (vn n N a) (vN n N a)) = true) → ((vx (n + m) (Clu.catN n N M) a) = (vx n N a)) → (a < (((vx n N a) : Nat) : Int)) → ((vx n N a) ≤ n) → ((vz ((vx n N a) - 0) (Clu.maskN ((vx n N a) - 0) (Nat.shiftRight N 0)) a) = 0) → ((Clu.eqNs (vn ((vx n N a) - 0) (Clu.maskN ((vx n N a) - 0) (Nat.shiftRight N 0)) a) (vN ((vx n N a) - 0) (Clu.maskN ((vx n N a) - 0) (Nat.shiftRight N 0)) a) (vn n N a) (vN n N a)) = false) → ((((vn n N a) : Nat) : Int) = ((((vx n N a) : Nat) : Int) - a)) → False)
  (V18 : (n ≤ 3000) → (m ≤ 3000) → ((vz n N a) = 0) → ((vz (n + m) (Clu.catN n N M) a) = 0) → ((Clu.eqNs (vn (n + m) (Clu.catN n N M) a) (vN (n + m) (Clu.catN n N M) a) (vn n N a) (vN n N a)) = true) → ((vx (n + m) (Clu.catN n N M) a) = (vx n N a)) → (a < (((vx n N a) : Nat) : Int)) → ((vx n N a) ≤ n) → ((vz ((vx n N a) - 0) (Clu.maskN ((vx n N a) - 0) (Nat.shiftRight N 0)) a) = 0) → ((Clu.eqNs (vn ((vx n N a) - 0) (Clu.maskN ((vx n N a) - 0) (Nat.shiftRight N 0)) a) (vN ((vx n N a) - 0) (Clu.maskN ((vx n N a) - 0) (Nat.shiftRight N 0)) a) (vn n N a) (vN n N a)) = false) → ((((vn n N a) : Nat) : Int) ≠ ((((vx n N a) : Nat) : Int) - a)) → (vz ((vx n N a) - 0) (Clu.maskN ((vx n N a) - 0) (Nat.shiftRight N 0)) a) = 4)
  (V19 : (n ≤ 3000) → (m ≤ 3000) → ((vz n N a) = 0) → ((vz (n + m) (Clu.catN n N M) a) = 0) → ((Clu.eqNs (vn (n + m) (Clu.catN n N M) a) (vN (n + m) (Clu.catN n N M) a) (vn n N a) (vN n N a)) = true) → ((vx (n + m) (Clu.catN n N M) a) = (vx n N a)) → (a < (((vx n N a) : Nat) : Int)) → ((vx n N a) ≤ n) → ((vz ((vx n N a) - 0) (Clu.maskN ((vx n N a) - 0) (Nat.shiftRight N 0)) a) ≠ 0) → -9223372036854775808 ≤ ((((vx n N a) : Nat) : Int) - a) ∧ ((((vx n N a) : Nat) : Int) - a) < 9223372036854775808)
  (V20 : (n ≤ 3000) → (m ≤ 3000) → ((vz n N a) = 0) → ((vz (n + m) (Clu.catN n N M) a) = 0) → ((Clu.eqNs (vn (n + m) (Clu.catN n N M) a) (vN (n + m) (Clu.catN n N M) a) (vn n N a) (vN n N a)) = true) → ((vx (n + m) (Clu.catN n N M) a) = (vx n N a)) → (a < (((vx n N a) : Nat) : Int)) → ((vx n N a) ≤ n) → ((vz ((vx n N a) - 0) (Clu.maskN ((vx n N a) - 0) (Nat.shiftRight N 0)) a) ≠ 0) → ((((vn n N a) : Nat) : Int) = ((((vx n N a) : Nat) : Int) - a)) → False)
  (V21 : (n ≤ 3000) → (m ≤ 3000) → ((vz n N a) = 0) → ((vz (n + m) (Clu.catN n N M) a) = 0) → ((Clu.eqNs (vn (n + m) (Clu.catN n N M) a) (vN (n + m) (Clu.catN n N M) a) (vn n N a) (vN n N a)) = true) → ((vx (n + m) (Clu.catN n N M) a) = (vx n N a)) → (a < (((vx n N a) : Nat) : Int)) → ((vx n N a) ≤ n) → ((vz ((vx n N a) - 0) (Clu.maskN ((vx n N a) - 0) (Nat.shiftRight N 0)) a) ≠ 0) → ((((vn n N a) : Nat) : Int) ≠ ((((vx n N a) : Nat) : Int) - a)) → (vz ((vx n N a) - 0) (Clu.maskN ((vx n N a) - 0) (Nat.shiftRight N 0)) a) = 4)
  (V22 : (n ≤ 3000) → (m ≤ 3000) → ((vz n N a) = 0) → ((vz (n + m) (Clu.catN n N M) a) = 0) → ((Clu.eqNs (vn (n + m) (Clu.catN n N M) a) (vN (n + m) (Clu.catN n N M) a) (vn n N a) (vN n N a)) = true) → ((vx (n + m) (Clu.catN n N M) a) = (vx n N a)) → (a < (((vx n N a) : Nat) : Int)) → (n < (vx n N a)) → False)
  (V23 : (n ≤ 3000) → (m ≤ 3000) → ((vz n N a) = 0) → ((vz (n + m) (Clu.catN n N M) a) = 0) → ((Clu.eqNs (vn (n + m) (Clu.catN n N M) a) (vN (n + m) (Clu.catN n N M) a) (vn n N a) (vN n N a)) = true) → ((vx (n + m) (Clu.catN n N M) a) = (vx n N a)) → ((((vx n N a) : Nat) : Int) ≤ a) → False)
  (V24 : (n ≤ 3000) → (m ≤ 3000) → ((vz n N a) = 0) → ((vz (n + m) (Clu.catN n N M) a) = 0) → ((Clu.eqNs (vn (n + m) (Clu.catN n N M) a) (vN (n + m) (Clu.catN n N M) a) (vn n N a) (vN n N a)) = true) → ((vx (n + m) (Clu.catN n N M) a) ≠ (vx n N a)) → False)
  (V25 : (n ≤ 3000) → (m ≤ 3000) → ((vz n N a) = 0) → ((vz (n + m) (Clu.catN n N M) a) = 0) → ((Clu.eqNs (vn (n + m) (Clu.catN n N M) a) (vN (n + m) (Clu.catN n N M) a) (vn n N a) (vN n N a)) = false) → False)
  (V26 : (n ≤ 3000) → (m ≤ 3000) → ((vz n N a) = 0) → ((vz (n + m) (Clu.catN n N M) a) ≠ 0) → False)
  (V27 : (n ≤ 3000) → (m ≤ 3000) → ((vz n N a) ≠ 0) → ((Clu.eqNs (vn n N a) (vN n N a) 0 0) = false) → False)
  (V28 : (n ≤ 3000) → (m ≤ 3000) → ((vz n N a) ≠ 0) → ((Clu.eqNs (vn n N a) (vN n N a) 0 0) = true) → (vx n N a) = 0) : (Clu.layK [] .e fun h => Clu.runL (Clu.noL) Try.prog (Clu.tell (Clu.addB (Clu.addB (Clu.addB (Clu.noX) 9 (Clu.decH awH)) 10 (Clu.decH (rdH vn vN vx vz))) 12 (Clu.decH (mayH my))) 4 300022430002063000192300018430001743000150300014030001303000120300011030000803000074300005430000483000038) (1000) 1000 4 [.s n N, .i .i64 a, .s m M, .i .i64 c] h 1000) = .ok (.b true) := by
  rw [beF_raw]
  refine Clu.forkB_cases (fun bc1 => ?_) (fun bc1 => ?_)
  · have c1 : n ≤ 3000 := (Int.ofNat_le.1 (Clu.of_iLt_f bc1))
    refine Clu.forkB_cases (fun bc2 => ?_) (fun bc2 => ?_)
    · have c2 : m ≤ 3000 := (Int.ofNat_le.1 (Clu.of_iLt_f bc2))
      have q2 : n < 10001 := (by omega)
      refine (Clu.needT_eq (Clu.blt_iff.2 q2) _ _).trans ?_
      refine Clu.forkB_cases (fun bc3 => ?_) (fun bc3 => ?_)
      · have c3 : (vz n N a) = 0 := (Int.ofNat.inj (Clu.of_iEq_t (Clu.of_not_f bc3)))
        have q3 : (n + m) < 9223372036854775808 := (by omega)
        refine (Clu.needT_eq (Clu.blt_iff.2 q3) _ _).trans ?_
        have q3 : (n + m) < 10001 := (by omega)
        refine (Clu.needT_eq (Clu.blt_iff.2 q3) _ _).trans ?_
        refine Clu.forkB_cases (fun bc4 => ?_) (fun bc4 => ?_)
        · have c4 : (vz (n + m) (Clu.catN n N M) a) = 0 := (Int.ofNat.inj (Clu.of_iEq_t (Clu.of_not_f bc4)))
          refine Clu.forkB_cases (fun bc5 => ?_) (fun bc5 => ?_)
          · have c5 : (Clu.eqNs (vn (n + m) (Clu.catN n N M) a) (vN (n + m) (Clu.catN n N M) a) (vn n N a) (vN n N a)) = true := (Clu.of_not_f bc5)
            refine Clu.forkB_cases (fun bc6 => ?_) (fun bc6 => ?_)
            · have c6 : (vx (n + m) (Clu.catN n N M) a) = (vx n N a) := (Int.ofNat.inj (Clu.of_iEq_t (Clu.of_not_f bc6)))
              refine Clu.forkB_cases (fun bc7 => ?_) (fun bc7 => ?_)
              · have c7 : a < (((vx n N a) : Nat) : Int) := (Clu.of_iLt_t (Clu.of_not_f bc7))
                refine Clu.forkB_cases (fun bc8 => ?_) (fun bc8 => ?_)
                · have c8 : (vx n N a) ≤ n := (Int.ofNat_le.1 (Clu.of_iLt_f bc8))
                  have q8 : (vx n N a) ≤ n := (V0 c1 c2 c3 c4 c5 c6 c7 c8)
                  refine (Clu.needT_eq (Clu.ble_iff.2 q8) _ _).trans ?_
                  have q8 : ((vx n N a) - 0) < 10001 := (V1 c1 c2 c3 c4 c5 c6 c7 c8)
                  refine (Clu.needT_eq (Clu.blt_iff.2 q8) _ _).trans ?_
                  refine Clu.forkB_cases (fun bc9 => ?_) (fun bc9 => ?_)
                  · have c9 : (vz ((vx n N a) - 0) (Clu.maskN ((vx n N a) - 0) (Nat.shiftRight N 0)) a) = 0 := (Int.ofNat.inj (Clu.of_iEq_t (Clu.of_not_f bc9)))
                    refine Clu.forkB_cases (fun bc10 => ?_) (fun bc10 => ?_)
                    · have c10 : (Clu.eqNs (vn ((vx n N a) - 0) (Clu.maskN ((vx n N a) - 0) (Nat.shiftRight N 0)) a) (vN ((vx n N a) - 0) (Clu.maskN ((vx n N a) - 0) (Nat.shiftRight N 0)) a) (vn n N a) (vN n N a)) = true := (Clu.of_not_f bc10)
                      refine Clu.forkB_cases (fun bc11 => ?_) (fun bc11 => ?_)
                      · have c11 : (vx ((vx n N a) - 0) (Clu.maskN ((vx n N a) - 0) (Nat.shiftRight N 0)) a) = (vx n N a) := (Int.ofNat.inj (Clu.of_iEq_t (Clu.of_not_f bc11)))
                        have q11 : (vx n N a) ≤ n := (V2 c1 c2 c3 c4 c5 c6 c7 c8 c9 c10 c11)
                        refine (Clu.needT_eq (Clu.ble_iff.2 q11) _ _).trans ?_
                        obtain ⟨n583, e_n583⟩ := V3 c1 c2 c3 c4 c5 c6 c7 c8 c9 c10 c11
                        refine (Clu.needI_eq e_n583 _ _).trans ?_
                        have q13 : n583 ≤ (vx n N a) := (V4 c1 c2 c3 c4 c5 c6 c7 c8 c9 c10 c11 n583 e_n583)
                        refine (Clu.needT_eq (Clu.ble_iff.2 q13) _ _).trans ?_
                        refine Clu.forkB_cases (fun bc14 => ?_) (fun bc14 => ?_)
                        · have c14 : (Clu.eqNs ((vx n N a) - n583) (Clu.maskN ((vx n N a) - n583) (Nat.shiftRight N (8 * n583))) (vn n N a) (vN n N a)) = true := (Clu.of_not_f bc14)
                          have q14 : -9223372036854775808 ≤ ((((vx n N a) : Nat) : Int) - a) ∧ ((((vx n N a) : Nat) : Int) - a) < 9223372036854775808 := (V5 c1 c2 c3 c4 c5 c6 c7 c8 c9 c10 c11 n583 e_n583 c14)
                          refine (Clu.needT_eq (Clu.inR_int (k := .i64) (half := 9223372036854775808) rfl q14) _ _).trans ?_
                          have q14 : (Clu.modN ((Int.ofNat (vx n N a)) - a) 18446744073709551616) ≠ 0 := (V6 c1 c2 c3 c4 c5 c6 c7 c8 c9 c10 c11 n583 e_n583 c14)
                          refine (Clu.needF_eq (Clu.iEq_f (fun hh => q14 (Int.ofNat.inj hh))) _ _).trans ?_
                          have q14 : ((Clu.modN c 18446744073709551616) % (Clu.modN ((Int.ofNat (vx n N a)) - a) 18446744073709551616)) < 9223372036854775808 := (V7 c1 c2 c3 c4 c5 c6 c7 c8 c9 c10 c11 n583 e_n583 c14)
                          refine (Clu.needT_eq (Clu.inR_nat (k := .i64) q14) _ _).trans ?_
                          have q14 : -9223372036854775808 ≤ (a + ((((Clu.modN c 18446744073709551616) % (Clu.modN ((Int.ofNat (vx n N a)) - a) 18446744073709551616)) : Nat) : Int)) ∧ (a + ((((Clu.modN c 18446744073709551616) % (Clu.modN ((Int.ofNat (vx n N a)) - a) 18446744073709551616)) : Nat) : Int)) < 9223372036854775808 := (V8 c1 c2 c3 c4 c5 c6 c7 c8 c9 c10 c11 n583 e_n583 c14)
                          refine (Clu.needT_eq (Clu.inR_int (k := .i64) (half := 9223372036854775808) rfl q14) _ _).trans ?_
                          obtain ⟨n576, e_n576⟩ := V9 c1 c2 c3 c4 c5 c6 c7 c8 c9 c10 c11 n583 e_n583 c14
                          refine (Clu.needI_eq e_n576 _ _).trans ?_
                          have q16 : n576 ≤ n := (V10 c1 c2 c3 c4 c5 c6 c7 c8 c9 c10 c11 n583 e_n583 c14 n576 e_n576)
                          refine (Clu.needT_eq (Clu.ble_iff.2 q16) _ _).trans ?_
                          have q16 : (n576 - 0) < 10001 := (V11 c1 c2 c3 c4 c5 c6 c7 c8 c9 c10 c11 n583 e_n583 c14 n576 e_n576)
                          refine (Clu.needT_eq (Clu.blt_iff.2 q16) _ _).trans ?_
                          have r16 : (vz (n576 - 0) (Clu.maskN (n576 - 0) (Nat.shiftRight N 0)) a) = 4 := V12 c1 c2 c3 c4 c5 c6 c7 c8 c9 c10 c11 n583 e_n583 c14 n576 e_n576
                          exact congrArg (fun b => Clu.Out.ok (.b b)) (Clu.iEq_t (congrArg Int.ofNat r16))
                        · have c14 : (Clu.eqNs ((vx n N a) - n583) (Clu.maskN ((vx n N a) - n583) (Nat.shiftRight N (8 * n583))) (vn n N a) (vN n N a)) = false := (Clu.of_not_t bc14)
                          rfl
                      · have c11 : (vx ((vx n N a) - 0) (Clu.maskN ((vx n N a) - 0) (Nat.shiftRight N 0)) a) ≠ (vx n N a) := (fun hh => (Clu.of_iEq_f (Clu.of_not_t bc11)) (congrArg Int.ofNat hh))
                        have q11 : -9223372036854775808 ≤ ((((vx n N a) : Nat) : Int) - a) ∧ ((((vx n N a) : Nat) : Int) - a) < 9223372036854775808 := (V13 c1 c2 c3 c4 c5 c6 c7 c8 c9 c10 c11)
                        refine (Clu.needT_eq (Clu.inR_int (k := .i64) (half := 9223372036854775808) rfl q11) _ _).trans ?_
                        refine Clu.forkB_cases (fun bc12 => ?_) (fun bc12 => ?_)
                        · have c12 : (((vn n N a) : Nat) : Int) = ((((vx n N a) : Nat) : Int) - a) := (Clu.of_iEq_t (Clu.of_not_f bc12))
                          exact (V14 c1 c2 c3 c4 c5 c6 c7 c8 c9 c10 c11 c12).elim
                        · have c12 : (((vn n N a) : Nat) : Int) ≠ ((((vx n N a) : Nat) : Int) - a) := (Clu.of_iEq_f (Clu.of_not_t bc12))
                          have r12 : (vz ((vx n N a) - 0) (Clu.maskN ((vx n N a) - 0) (Nat.shiftRight N 0)) a) = 4 := V15 c1 c2 c3 c4 c5 c6 c7 c8 c9 c10 c11 c12
                          exact congrArg (fun b => Clu.Out.ok (.b b)) (Clu.iEq_t (congrArg Int.ofNat r12))
                    · have c10 : (Clu.eqNs (vn ((vx n N a) - 0) (Clu.maskN ((vx n N a) - 0) (Nat.shiftRight N 0)) a) (vN ((vx n N a) - 0) (Clu.maskN ((vx n N a) - 0) (Nat.shiftRight N 0)) a) (vn n N a) (vN n N a)) = false := (Clu.of_not_t bc10)
                      have q10 : -9223372036854775808 ≤ ((((vx n N a) : Nat) : Int) - a) ∧ ((((vx n N a) : Nat) : Int) - a) < 9223372036854775808 := (V16 c1 c2 c3 c4 c5 c6 c7 c8 c9 c10)
                      refine (Clu.needT_eq (Clu.inR_int (k := .i64) (half := 9223372036854775808) rfl q10) _ _).trans ?_
                      refine Clu.forkB_cases (fun bc11 => ?_) (fun bc11 => ?_)
                      · have c11 : (((vn n N a) : Nat) : Int) = ((((vx n N a) : Nat) : Int) - a) := (Clu.of_iEq_t (Clu.of_not_f bc11))
                        exact (V17 c1 c2 c3 c4 c5 c6 c7 c8 c9 c10 c11).elim
                      · have c11 : (((vn n N a) : Nat) : Int) ≠ ((((vx n N a) : Nat) : Int) - a) := (Clu.of_iEq_f (Clu.of_not_t bc11))
                        have r11 : (vz ((vx n N a) - 0) (Clu.maskN ((vx n N a) - 0) (Nat.shiftRight N 0)) a) = 4 := V18 c1 c2 c3 c4 c5 c6 c7 c8 c9 c10 c11
                        exact congrArg (fun b => Clu.Out.ok (.b b)) (Clu.iEq_t (congrArg Int.ofNat r11))
                  · have c9 : (vz ((vx n N a) - 0) (Clu.maskN ((vx n N a) - 0) (Nat.shiftRight N 0)) a) ≠ 0 := (fun hh => (Clu.of_iEq_f (Clu.of_not_t bc9)) (congrArg Int.ofNat hh))
                    have q9 : -9223372036854775808 ≤ ((((vx n N a) : Nat) : Int) - a) ∧ ((((vx n N a) : Nat) : Int) - a) < 9223372036854775808 := (V19 c1 c2 c3 c4 c5 c6 c7 c8 c9)
                    refine (Clu.needT_eq (Clu.inR_int (k := .i64) (half := 9223372036854775808) rfl q9) _ _).trans ?_
                    refine Clu.forkB_cases (fun bc10 => ?_) (fun bc10 => ?_)
                    · have c10 : (((vn n N a) : Nat) : Int) = ((((vx n N a) : Nat) : Int) - a) := (Clu.of_iEq_t (Clu.of_not_f bc10))
                      exact (V20 c1 c2 c3 c4 c5 c6 c7 c8 c9 c10).elim
                    · have c10 : (((vn n N a) : Nat) : Int) ≠ ((((vx n N a) : Nat) : Int) - a) := (Clu.of_iEq_f (Clu.of_not_t bc10))
                      have r10 : (vz ((vx n N a) - 0) (Clu.maskN ((vx n N a) - 0) (Nat.shiftRight N 0)) a) = 4 := V21 c1 c2 c3 c4 c5 c6 c7 c8 c9 c10
                      exact congrArg (fun b => Clu.Out.ok (.b b)) (Clu.iEq_t (congrArg Int.ofNat r10))
                · have c8 : n < (vx n N a) := (Int.ofNat_lt.1 (Clu.of_iLt_t bc8))
                  exact (V22 c1 c2 c3 c4 c5 c6 c7 c8).elim
              · have c7 : (((vx n N a) : Nat) : Int) ≤ a := (Clu.of_iLt_f (Clu.of_not_t bc7))
                exact (V23 c1 c2 c3 c4 c5 c6 c7).elim
            · have c6 : (vx (n + m) (Clu.catN n N M) a) ≠ (vx n N a) := (fun hh => (Clu.of_iEq_f (Clu.of_not_t bc6)) (congrArg Int.ofNat hh))
              exact (V24 c1 c2 c3 c4 c5 c6).elim
          · have c5 : (Clu.eqNs (vn (n + m) (Clu.catN n N M) a) (vN (n + m) (Clu.catN n N M) a) (vn n N a) (vN n N a)) = false := (Clu.of_not_t bc5)
            exact (V25 c1 c2 c3 c4 c5).elim
        · have c4 : (vz (n + m) (Clu.catN n N M) a) ≠ 0 := (fun hh => (Clu.of_iEq_f (Clu.of_not_t bc4)) (congrArg Int.ofNat hh))
          exact (V26 c1 c2 c3 c4).elim
      · have c3 : (vz n N a) ≠ 0 := (fun hh => (Clu.of_iEq_f (Clu.of_not_t bc3)) (congrArg Int.ofNat hh))
        refine Clu.forkB_cases (fun bc4 => ?_) (fun bc4 => ?_)
        · have c4 : (Clu.eqNs (vn n N a) (vN n N a) 0 0) = false := bc4
          exact (V27 c1 c2 c3 c4).elim
        · have c4 : (Clu.eqNs (vn n N a) (vN n N a) 0 0) = true := bc4
          have r4 : (vx n N a) = 0 := V28 c1 c2 c3 c4
          exact congrArg (fun b => Clu.Out.ok (.b b)) (Clu.iEq_t (congrArg Int.ofNat r4))
    · have c2 : 3000 < m := (Int.ofNat_lt.1 (Clu.of_iLt_t bc2))
      rfl
  · have c1 : 3000 < n := (Int.ofNat_lt.1 (Clu.of_iLt_t bc1))
    rfl
theorem beF_law (vn vN vx vz : Nat → Nat → Int → Nat) (my : Nat → Nat → Bool) (n N m M : Nat) (a c : Int) (hX : Clu.XOK Try.prog (Clu.addB (Clu.addB (Clu.addB (Clu.noX) 9 (Clu.decH awH)) 10 (Clu.decH (rdH vn vN vx vz))) 12 (Clu.decH (mayH my))))  
  (V0 : (n ≤ 3000) → (m ≤ 3000) → ((vz n N a) = 0) → ((vz (n + m) (Clu.catN n N M) a) = 0) → ((Clu.eqNs (vn (n + m) (Clu.catN n N M) a) (vN (n + m) (Clu.catN n N M) a) (vn n N a) (vN n N a)) = true) → ((vx (n + m) (Clu.catN n N M) a) = (vx n N a)) → (a < (((vx n N a) : Nat) : Int)) → ((vx n N a) ≤ n) → (vx n N a) ≤ n)
  (V1 : (n ≤ 3000) → (m ≤ 3000) → ((vz n N a) = 0) → ((vz (n + m) (Clu.catN n N M) a) = 0) → ((Clu.eqNs (vn (n + m) (Clu.catN n N M) a) (vN (n + m) (Clu.catN n N M) a) (vn n N a) (vN n N a)) = true) → ((vx (n + m) (Clu.catN n N M) a) = (vx n N a)) → (a < (((vx n N a) : Nat) : Int)) → ((vx n N a) ≤ n) → ((vx n N a) - 0) < 10001)
  (V2 : (n ≤ 3000) → (m ≤ 3000) → ((vz n N a) = 0) → ((vz (n + m) (Clu.catN n N M) a) = 0) → ((Clu.eqNs (vn (n + m) (Clu.catN n N M) a) (vN (n + m) (Clu.catN n N M) a) (vn n N a) (vN n N a)) = true) → ((vx (n + m) (Clu.catN n N M) a) = (vx n N a)) → (a < (((vx n N a) : Nat) : Int)) → ((vx n N a) ≤ n) → ((vz ((vx n N a) - 0) (Clu.maskN ((vx n N a) - 0) (Nat.shiftRight N 0)) a) = 0) → ((Clu.eqNs (vn ((vx n N a) - 0) (Clu.maskN ((vx n N a) - 0) (Nat.shiftRight N 0)) a) (vN ((vx n N a) - 0) (Clu.maskN ((vx n N a) - 0) (Nat.shiftRight N 0)) a) (vn n N a) (vN n N a)) = true) → ((vx ((vx n N a) - 0) (Clu.maskN ((vx n N a) - 0) (Nat.shiftRight N 0)) a) = (vx n N a)) → (vx n N a) ≤ n)
  (V3 : (n ≤ 3000) → (m ≤ 3000) → ((vz n N a) = 0) → ((vz (n + m) (Clu.catN n N M) a) = 0) → ((Clu.eqNs (vn (n + m) (Clu.catN n N M) a) (vN (n + m) (Clu.catN n N M) a) (vn n N a) (vN n N a)) = true) → ((vx (n + m) (Clu.catN n N M) a) = (vx n N a)) → (a < (((vx n N a) : Nat) : Int)) → ((vx n N a) ≤ n) → ((vz ((vx n N a) - 0) (Clu.maskN ((vx n N a) - 0) (Nat.shiftRight N 0)) a) = 0) → ((Clu.eqNs (vn ((vx n N a) - 0) (Clu.maskN ((vx n N a) - 0) (Nat.shiftRight N 0)) a) (vN ((vx n N a) - 0) (Clu.maskN ((vx n N a) - 0) (Nat.shiftRight N 0)) a) (vn n N a) (vN n N a)) = true) → ((vx ((vx n N a) - 0) (Clu.maskN ((vx n N a) - 0) (Nat.shiftRight N 0)) a) = (vx n N a)) → ∃ x : Nat, a = Int.ofNat x)
  (V4 : (n ≤ 3000) → (m ≤ 3000) → ((vz n N a) = 0) → ((vz (n + m) (Clu.catN n N M) a) = 0) → ((Clu.eqNs (vn (n + m) (Clu.catN n N M) a) (vN (n + m) (Clu.catN n N M) a) (vn n N a) (vN n N a)) = true) → ((vx (n + m) (Clu.catN n N M) a) = (vx n N a)) → (a < (((vx n N a) : Nat) : Int)) → ((vx n N a) ≤ n) → ((vz ((vx n N a) - 0) (Clu.maskN ((vx n N a) - 0) (Nat.shiftRight N 0)) a) = 0) → ((Clu.eqNs (vn ((vx n N a) - 0) (Clu.maskN ((vx n N a) - 0) (Nat.shiftRight N 0)) a) (vN ((vx n N a) - 0) (Clu.maskN ((vx n N a) - 0) (Nat.shiftRight N 0)) a) (vn n N a) (vN n N a)) = true) → ((vx ((vx n N a) - 0) (Clu.maskN ((vx n N a) - 0) (Nat.shiftRight N 0)) a) = (vx n N a)) → ∀ n583 : Nat, (a = Int.ofNat n583) → n583 ≤ (vx n N a))
  (V5 : (n ≤ 3000) → (m ≤ 3000) → ((vz n N a) = 0) → ((vz (n + m) (Clu.catN n N M) a) = 0) → ((Clu.eqNs (vn (n + m) (Clu.catN n N M) a) (vN (n + m) (Clu.catN n N M) a) (vn n N a) (vN n N a)) = true) → ((vx (n + m) (Clu.catN n N M) a) = (vx n N a)) → (a < (((vx n N a) : Nat) : Int)) → ((vx n N a) ≤ n) → ((vz ((vx n N a) - 0) (Clu.maskN ((vx n N a) - 0) (Nat.shiftRight N 0)) a) = 0) → ((Clu.eqNs (vn ((vx n N a) - 0) (Clu.maskN ((vx n N a) - 0) (Nat.shiftRight N 0)) a) (vN ((vx n N a) - 0) (Clu.maskN ((vx n N a) - 0) (Nat.shiftRight N 0)) a) (vn n N a) (vN n N a)) = true) → ((vx ((vx n N a) - 0) (Clu.maskN ((vx n N a) - 0) (Nat.shiftRight N 0)) a) = (vx n N a)) → ∀ n583 : Nat, (a = Int.ofNat n583) → ((Clu.eqNs ((vx n N a) - n583) (Clu.maskN ((vx n N a) - n583) (Nat.shiftRight N (8 * n583))) (vn n N a) (vN n N a)) = true) → -9223372036854775808 ≤ ((((vx n N a) : Nat) : Int) - a) ∧ ((((vx n N a) : Nat) : Int) - a) < 9223372036854775808)
  (V6 : (n ≤ 3000) → (m ≤ 3000) → ((vz n N a) = 0) → ((vz (n + m) (Clu.catN n N M) a) = 0) → ((Clu.eqNs (vn (n + m) (Clu.catN n N M) a) (vN (n + m) (Clu.catN n N M) a) (vn n N a) (vN n N a)) = true) → ((vx (n + m) (Clu.catN n N M) a) = (vx n N a)) → (a < (((vx n N a) : Nat) : Int)) → ((vx n N a) ≤ n) → ((vz ((vx n N a) - 0) (Clu.maskN ((vx n N a) - 0) (Nat.shiftRight N 0)) a) = 0) → ((Clu.eqNs (vn ((vx n N a) - 0) (Clu.maskN ((vx n N a) - 0) (Nat.shiftRight N 0)) a) (vN ((vx n N a) - 0) (Clu.maskN ((vx n N a) - 0) (Nat.shiftRight N 0)) a) (vn n N a) (vN n N a)) = true) → ((vx ((vx n N a) - 0) (Clu.maskN ((vx n N a) - 0) (Nat.shiftRight N 0)) a) = (vx n N a)) → ∀ n583 : Nat, (a = Int.ofNat n583) → ((Clu.eqNs ((vx n N a) - n583) (Clu.maskN ((vx n N a) - n583) (Nat.shiftRight N (8 * n583))) (vn n N a) (vN n N a)) = true) → (Clu.modN ((Int.ofNat (vx n N a)) - a) 18446744073709551616) ≠ 0)
  (V7 : (n ≤ 3000) → (m ≤ 3000) → ((vz n N a) = 0) → ((vz (n + m) (Clu.catN n N M) a) = 0) → ((Clu.eqNs (vn (n + m) (Clu.catN n N M) a) (vN (n + m) (Clu.catN n N M) a) (vn n N a) (vN n N a)) = true) → ((vx (n + m) (Clu.catN n N M) a) = (vx n N a)) → (a < (((vx n N a) : Nat) : Int)) → ((vx n N a) ≤ n) → ((vz ((vx n N a) - 0) (Clu.maskN ((vx n N a) - 0) (Nat.shiftRight N 0)) a) = 0) → ((Clu.eqNs (vn ((vx n N a) - 0) (Clu.maskN ((vx n N a) - 0) (Nat.shiftRight N 0)) a) (vN ((vx n N a) - 0) (Clu.maskN ((vx n N a) - 0) (Nat.shiftRight N 0)) a) (vn n N a) (vN n N a)) = true) → ((vx ((vx n N a) - 0) (Clu.maskN ((vx n N a) - 0) (Nat.shiftRight N 0)) a) = (vx n N a)) → ∀ n583 : Nat, (a = Int.ofNat n583) → ((Clu.eqNs ((vx n N a) - n583) (Clu.maskN ((vx n N a) - n583) (Nat.shiftRight N (8 * n583))) (vn n N a) (vN n N a)) = true) → ((Clu.modN c 18446744073709551616) % (Clu.modN ((Int.ofNat (vx n N a)) - a) 18446744073709551616)) < 9223372036854775808)
  (V8 : (n ≤ 3000) → (m ≤ 3000) → ((vz n N a) = 0) → ((vz (n + m) (Clu.catN n N M) a) = 0) → ((Clu.eqNs (vn (n + m) (Clu.catN n N M) a) (vN (n + m) (Clu.catN n N M) a) (vn n N a) (vN n N a)) = true) → ((vx (n + m) (Clu.catN n N M) a) = (vx n N a)) → (a < (((vx n N a) : Nat) : Int)) → ((vx n N a) ≤ n) → ((vz ((vx n N a) - 0) (Clu.maskN ((vx n N a) - 0) (Nat.shiftRight N 0)) a) = 0) → ((Clu.eqNs (vn ((vx n N a) - 0) (Clu.maskN ((vx n N a) - 0) (Nat.shiftRight N 0)) a) (vN ((vx n N a) - 0) (Clu.maskN ((vx n N a) - 0) (Nat.shiftRight N 0)) a) (vn n N a) (vN n N a)) = true) → ((vx ((vx n N a) - 0) (Clu.maskN ((vx n N a) - 0) (Nat.shiftRight N 0)) a) = (vx n N a)) → ∀ n583 : Nat, (a = Int.ofNat n583) → ((Clu.eqNs ((vx n N a) - n583) (Clu.maskN ((vx n N a) - n583) (Nat.shiftRight N (8 * n583))) (vn n N a) (vN n N a)) = true) → -9223372036854775808 ≤ (a + ((((Clu.modN c 18446744073709551616) % (Clu.modN ((Int.ofNat (vx n N a)) - a) 18446744073709551616)) : Nat) : Int)) ∧ (a + ((((Clu.modN c 18446744073709551616) % (Clu.modN ((Int.ofNat (vx n N a)) - a) 18446744073709551616)) : Nat) : Int)) < 9223372036854775808)
  (V9 : (n ≤ 3000) → (m ≤ 3000) → ((vz n N a) = 0) → ((vz (n + m) (Clu.catN n N M) a) = 0) → ((Clu.eqNs (vn (n + m) (Clu.catN n N M) a) (vN (n + m) (Clu.catN n N M) a) (vn n N a) (vN n N a)) = true) → ((vx (n + m) (Clu.catN n N M) a) = (vx n N a)) → (a < (((vx n N a) : Nat) : Int)) → ((vx n N a) ≤ n) → ((vz ((vx n N a) - 0) (Clu.maskN ((vx n N a) - 0) (Nat.shiftRight N 0)) a) = 0) → ((Clu.eqNs (vn ((vx n N a) - 0) (Clu.maskN ((vx n N a) - 0) (Nat.shiftRight N 0)) a) (vN ((vx n N a) - 0) (Clu.maskN ((vx n N a) - 0) (Nat.shiftRight N 0)) a) (vn n N a) (vN n N a)) = true) → ((vx ((vx n N a) - 0) (Clu.maskN ((vx n N a) - 0) (Nat.shiftRight N 0)) a) = (vx n N a)) → ∀ n583 : Nat, (a = Int.ofNat n583) → ((Clu.eqNs ((vx n N a) - n583) (Clu.maskN ((vx n N a) - n583) (Nat.shiftRight N (8 * n583))) (vn n N a) (vN n N a)) = true) → ∃ x : Nat, (a + (Int.ofNat ((Clu.modN c 18446744073709551616) % (Clu.modN ((Int.ofNat (vx n N a)) - a) 18446744073709551616)))) = Int.ofNat x)
  (V10 : (n ≤ 3000) → (m ≤ 3000) → ((vz n N a) = 0) → ((vz (n + m) (Clu.catN n N M) a) = 0) → ((Clu.eqNs (vn (n + m) (Clu.catN n N M) a) (vN (n + m) (Clu.catN n N M) a) (vn n N a) (vN n N a)) = true) → ((vx (n + m) (Clu.catN n N M) a) = (vx n N a)) → (a < (((vx n N a) : Nat) : Int)) → ((vx n N a) ≤ n) → ((vz ((vx n N a) - 0) (Clu.maskN ((vx n N a) - 0) (Nat.shiftRight N 0)) a) = 0) → ((Clu.eqNs (vn ((vx n N a) - 0) (Clu.maskN ((vx n N a) - 0) (Nat.shiftRight N 0)) a) (vN ((vx n N a) - 0) (Clu.maskN ((vx n N a) - 0) (Nat.shiftRight N 0)) a) (vn n N a) (vN n N a)) = true) → ((vx ((vx n N a) - 0) (Clu.maskN ((vx n N a) - 0) (Nat.shiftRight N 0)) a) = (vx n N a)) → ∀ n583 : Nat, (a = Int.ofNat n583) → ((Clu.eqNs ((vx n N a) - n583) (Clu.maskN ((vx n N a) - n583) (Nat.shiftRight N (8 * n583))) (vn n N a) (vN n N a)) = true) → ∀ n576 : Nat, ((a + (Int.ofNat ((Clu.modN c 18446744073709551616) % (Clu.modN ((Int.ofNat (vx n N a)) - a) 18446744073709551616)))) = Int.ofNat n576) → n576 ≤ n)
  (V11 : (n ≤ 3000) → (m ≤ 3000) → ((vz n N a) = 0) → ((vz (n + m) (Clu.catN n N M) a) = 0) → ((Clu.eqNs (vn (n + m) (Clu.catN n N M) a) (vN (n + m) (Clu.catN n N M) a) (vn n N a) (vN n N a)) = true) → ((vx (n + m) (Clu.catN n N M) a) = (vx n N a)) → (a < (((vx n N a) : Nat) : Int)) → ((vx n N a) ≤ n) → ((vz ((vx n N a) - 0) (Clu.maskN ((vx n N a) - 0) (Nat.shiftRight N 0)) a) = 0) → ((Clu.eqNs (vn ((vx n N a) - 0) (Clu.maskN ((vx n N a) - 0) (Nat.shiftRight N 0)) a) (vN ((vx n N a) - 0) (Clu.maskN ((vx n N a) - 0) (Nat.shiftRight N 0)) a) (vn n N a) (vN n N a)) = true) → ((vx ((vx n N a) - 0) (Clu.maskN ((vx n N a) - 0) (Nat.shiftRight N 0)) a) = (vx n N a)) → ∀ n583 : Nat, (a = Int.ofNat n583) → ((Clu.eqNs ((vx n N a) - n583) (Clu.maskN ((vx n N a) - n583) (Nat.shiftRight N (8 * n583))) (vn n N a) (vN n N a)) = true) → ∀ n576 : Nat, ((a + (Int.ofNat ((Clu.modN c 18446744073709551616) % (Clu.modN ((Int.ofNat (vx n N a)) - a) 18446744073709551616)))) = Int.ofNat n576) → (n576 - 0) < 10001)
  (V12 : (n ≤ 3000) → (m ≤ 3000) → ((vz n N a) = 0) → ((vz (n + m) (Clu.catN n N M) a) = 0) → ((Clu.eqNs (vn (n + m) (Clu.catN n N M) a) (vN (n + m) (Clu.catN n N M) a) (vn n N a) (vN n N a)) = true) → ((vx (n + m) (Clu.catN n N M) a) = (vx n N a)) → (a < (((vx n N a) : Nat) : Int)) → ((vx n N a) ≤ n) → ((vz ((vx n N a) - 0) (Clu.maskN ((vx n N a) - 0) (Nat.shiftRight N 0)) a) = 0) → ((Clu.eqNs (vn ((vx n N a) - 0) (Clu.maskN ((vx n N a) - 0) (Nat.shiftRight N 0)) a) (vN ((vx n N a) - 0) (Clu.maskN ((vx n N a) - 0) (Nat.shiftRight N 0)) a) (vn n N a) (vN n N a)) = true) → ((vx ((vx n N a) - 0) (Clu.maskN ((vx n N a) - 0) (Nat.shiftRight N 0)) a) = (vx n N a)) → ∀ n583 : Nat, (a = Int.ofNat n583) → ((Clu.eqNs ((vx n N a) - n583) (Clu.maskN ((vx n N a) - n583) (Nat.shiftRight N (8 * n583))) (vn n N a) (vN n N a)) = true) → ∀ n576 : Nat, ((a + (Int.ofNat ((Clu.modN c 18446744073709551616) % (Clu.modN ((Int.ofNat (vx n N a)) - a) 18446744073709551616)))) = Int.ofNat n576) → (vz (n576 - 0) (Clu.maskN (n576 - 0) (Nat.shiftRight N 0)) a) = 4)
  (V13 : (n ≤ 3000) → (m ≤ 3000) → ((vz n N a) = 0) → ((vz (n + m) (Clu.catN n N M) a) = 0) → ((Clu.eqNs (vn (n + m) (Clu.catN n N M) a) (vN (n + m) (Clu.catN n N M) a) (vn n N a) (vN n N a)) = true) → ((vx (n + m) (Clu.catN n N M) a) = (vx n N a)) → (a < (((vx n N a) : Nat) : Int)) → ((vx n N a) ≤ n) → ((vz ((vx n N a) - 0) (Clu.maskN ((vx n N a) - 0) (Nat.shiftRight N 0)) a) = 0) → ((Clu.eqNs (vn ((vx n N a) - 0) (Clu.maskN ((vx n N a) - 0) (Nat.shiftRight N 0)) a) (vN ((vx n N a) - 0) (Clu.maskN ((vx n N a) - 0) (Nat.shiftRight N 0)) a) (vn n N a) (vN n N a)) = true) → ((vx ((vx n N a) - 0) (Clu.maskN ((vx n N a) - 0) (Nat.shiftRight N 0)) a) ≠ (vx n N a)) → -9223372036854775808 ≤ ((((vx n N a) : Nat) : Int) - a) ∧ ((((vx n N a) : Nat) : Int) - a) < 9223372036854775808)
  (V14 : (n ≤ 3000) → (m ≤ 3000) → ((vz n N a) = 0) → ((vz (n + m) (Clu.catN n N M) a) = 0) → ((Clu.eqNs (vn (n + m) (Clu.catN n N M) a) (vN (n + m) (Clu.catN n N M) a) (vn n N a) (vN n N a)) = true) → ((vx (n + m) (Clu.catN n N M) a) = (vx n N a)) → (a < (((vx n N a) : Nat) : Int)) → ((vx n N a) ≤ n) → ((vz ((vx n N a) - 0) (Clu.maskN ((vx n N a) - 0) (Nat.shiftRight N 0)) a) = 0) → ((Clu.eqNs (vn ((vx n N a) - 0) (Clu.maskN ((vx n N a) - 0) (Nat.shiftRight N 0)) a) (vN ((vx n N a) - 0) (Clu.maskN ((vx n N a) - 0) (Nat.shiftRight N 0)) a) (vn n N a) (vN n N a)) = true) → ((vx ((vx n N a) - 0) (Clu.maskN ((vx n N a) - 0) (Nat.shiftRight N 0)) a) ≠ (vx n N a)) → ((((vn n N a) : Nat) : Int) = ((((vx n N a) : Nat) : Int) - a)) → False)
  (V15 : (n ≤ 3000) → (m ≤ 3000) → ((vz n N a) = 0) → ((vz (n + m) (Clu.catN n N M) a) = 0) → ((Clu.eqNs (vn (n + m) (Clu.catN n N M) a) (vN (n + m) (Clu.catN n N M) a) (vn n N a) (vN n N a)) = true) → ((vx (n + m) (Clu.catN n N M) a) = (vx n N a)) → (a < (((vx n N a) : Nat) : Int)) → ((vx n N a) ≤ n) → ((vz ((vx n N a) - 0) (Clu.maskN ((vx n N a) - 0) (Nat.shiftRight N 0)) a) = 0) → ((Clu.eqNs (vn ((vx n N a) - 0) (Clu.maskN ((vx n N a) - 0) (Nat.shiftRight N 0)) a) (vN ((vx n N a) - 0) (Clu.maskN ((vx n N a) - 0) (Nat.shiftRight N 0)) a) (vn n N a) (vN n N a)) = true) → ((vx ((vx n N a) - 0) (Clu.maskN ((vx n N a) - 0) (Nat.shiftRight N 0)) a) ≠ (vx n N a)) → ((((vn n N a) : Nat) : Int) ≠ ((((vx n N a) : Nat) : Int) - a)) → (vz ((vx n N a) - 0) (Clu.maskN ((vx n N a) - 0) (Nat.shiftRight N 0)) a) = 4)
  (V16 : (n ≤ 3000) → (m ≤ 3000) → ((vz n N a) = 0) → ((vz (n + m) (Clu.catN n N M) a) = 0) → ((Clu.eqNs (vn (n + m) (Clu.catN n N M) a) (vN (n + m) (Clu.catN n N M) a) (vn n N a) (vN n N a)) = true) → ((vx (n + m) (Clu.catN n N M) a) = (vx n N a)) → (a < (((vx n N a) : Nat) : Int)) → ((vx n N a) ≤ n) → ((vz ((vx n N a) - 0) (Clu.maskN ((vx n N a) - 0) (Nat.shiftRight N 0)) a) = 0) → ((Clu.eqNs (vn ((vx n N a) - 0) (Clu.maskN ((vx n N a) - 0) (Nat.shiftRight N 0)) a) (vN ((vx n N a) - 0) (Clu.maskN ((vx n N a) - 0) (Nat.shiftRight N 0)) a) (vn n N a) (vN n N a)) = false) → -9223372036854775808 ≤ ((((vx n N a) : Nat) : Int) - a) ∧ ((((vx n N a) : Nat) : Int) - a) < 9223372036854775808)
  (V17 : (n ≤ 3000) → (m ≤ 3000) → ((vz n N a) = 0) → ((vz (n + m) (Clu.catN n N M) a) = 0) → ((Clu.eqNs (vn (n + m) (Clu.catN n N M) a) (vN (n + m) (Clu.catN n N M) a) (vn n N a) (vN n N a)) = true) → ((vx (n + m) (Clu.catN n N M) a) = (vx n N a)) → (a < (((vx n N a) : Nat) : Int)) → ((vx n N a) ≤ n) → ((vz ((vx n N a) - 0) (Clu.maskN ((vx n N a) - 0) (Nat.shiftRight N 0)) a) = 0) → ((Clu.eqNs (vn ((vx n N a) - 0) (Clu.maskN ((vx n N a) - 0) (Nat.shiftRight N 0)) a) (vN ((vx n N a) - 0) (Clu.maskN ((vx n N a) - 0) (Nat.shiftRight N 0)) a) (vn n N a) (vN n N a)) = false) → ((((vn n N a) : Nat) : Int) = ((((vx n N a) : Nat) : Int) - a)) → False)
  (V18 : (n ≤ 3000) → (m ≤ 3000) → ((vz n N a) = 0) → ((vz (n + m) (Clu.catN n N M) a) = 0) → ((Clu.eqNs (vn (n + m) (Clu.catN n N M) a) (vN (n + m) (Clu.catN n N M) a) (vn n N a) (vN n N a)) = true) → ((vx (n + m) (Clu.catN n N M) a) = (vx n N a)) → (a < (((vx n N a) : Nat) : Int)) → ((vx n N a) ≤ n) → ((vz ((vx n N a) - 0) (Clu.maskN ((vx n N a) - 0) (Nat.shiftRight N 0)) a) = 0) → ((Clu.eqNs (vn ((vx n N a) - 0) (Clu.maskN ((vx n N a) - 0) (Nat.shiftRight N 0)) a) (vN ((vx n N a) - 0) (Clu.maskN ((vx n N a) - 0) (Nat.shiftRight N 0)) a) (vn n N a) (vN n N a)) = false) → ((((vn n N a) : Nat) : Int) ≠ ((((vx n N a) : Nat) : Int) - a)) → (vz ((vx n N a) - 0) (Clu.maskN ((vx n N a) - 0) (Nat.shiftRight N 0)) a) = 4)
  (V19 : (n ≤ 3000) → (m ≤ 3000) → ((vz n N a) = 0) → ((vz (n + m) (Clu.catN n N M) a) = 0) → ((Clu.eqNs (vn (n + m) (Clu.catN n N M) a) (vN (n + m) (Clu.catN n N M) a) (vn n N a) (vN n N a)) = true) → ((vx (n + m) (Clu.catN n N M) a) = (vx n N a)) → (a < (((vx n N a) : Nat) : Int)) → ((vx n N a) ≤ n) → ((vz ((vx n N a) - 0) (Clu.maskN ((vx n N a) - 0) (Nat.shiftRight N 0)) a) ≠ 0) → -9223372036854775808 ≤ ((((vx n N a) : Nat) : Int) - a) ∧ ((((vx n N a) : Nat) : Int) - a) < 9223372036854775808)
  (V20 : (n ≤ 3000) → (m ≤ 3000) → ((vz n N a) = 0) → ((vz (n + m) (Clu.catN n N M) a) = 0) → ((Clu.eqNs (vn (n + m) (Clu.catN n N M) a) (vN (n + m) (Clu.catN n N M) a) (vn n N a) (vN n N a)) = true) → ((vx (n + m) (Clu.catN n N M) a) = (vx n N a)) → (a < (((vx n N a) : Nat) : Int)) → ((vx n N a) ≤ n) → ((vz ((vx n N a) - 0) (Clu.maskN ((vx n N a) - 0) (Nat.shiftRight N 0)) a) ≠ 0) → ((((vn n N a) : Nat) : Int) = ((((vx n N a) : Nat) : Int) - a)) → False)
  (V21 : (n ≤ 3000) → (m ≤ 3000) → ((vz n N a) = 0) → ((vz (n + m) (Clu.catN n N M) a) = 0) → ((Clu.eqNs (vn (n + m) (Clu.catN n N M) a) (vN (n + m) (Clu.catN n N M) a) (vn n N a) (vN n N a)) = true) → ((vx (n + m) (Clu.catN n N M) a) = (vx n N a)) → (a < (((vx n N a) : Nat) : Int)) → ((vx n N a) ≤ n) → ((vz ((vx n N a) - 0) (Clu.maskN ((vx n N a) - 0) (Nat.shiftRight N 0)) a) ≠ 0) → ((((vn n N a) : Nat) : Int) ≠ ((((vx n N a) : Nat) : Int) - a)) → (vz ((vx n N a) - 0) (Clu.maskN ((vx n N a) - 0) (Nat.shiftRight N 0)) a) = 4)
  (V22 : (n ≤ 3000) → (m ≤ 3000) → ((vz n N a) = 0) → ((vz (n + m) (Clu.catN n N M) a) = 0) → ((Clu.eqNs (vn (n + m) (Clu.catN n N M) a) (vN (n + m) (Clu.catN n N M) a) (vn n N a) (vN n N a)) = true) → ((vx (n + m) (Clu.catN n N M) a) = (vx n N a)) → (a < (((vx n N a) : Nat) : Int)) → (n < (vx n N a)) → False)
  (V23 : (n ≤ 3000) → (m ≤ 3000) → ((vz n N a) = 0) → ((vz (n + m) (Clu.catN n N M) a) = 0) → ((Clu.eqNs (vn (n + m) (Clu.catN n N M) a) (vN (n + m) (Clu.catN n N M) a) (vn n N a) (vN n N a)) = true) → ((vx (n + m) (Clu.catN n N M) a) = (vx n N a)) → ((((vx n N a) : Nat) : Int) ≤ a) → False)
  (V24 : (n ≤ 3000) → (m ≤ 3000) → ((vz n N a) = 0) → ((vz (n + m) (Clu.catN n N M) a) = 0) → ((Clu.eqNs (vn (n + m) (Clu.catN n N M) a) (vN (n + m) (Clu.catN n N M) a) (vn n N a) (vN n N a)) = true) → ((vx (n + m) (Clu.catN n N M) a) ≠ (vx n N a)) → False)
  (V25 : (n ≤ 3000) → (m ≤ 3000) → ((vz n N a) = 0) → ((vz (n + m) (Clu.catN n N M) a) = 0) → ((Clu.eqNs (vn (n + m) (Clu.catN n N M) a) (vN (n + m) (Clu.catN n N M) a) (vn n N a) (vN n N a)) = false) → False)
  (V26 : (n ≤ 3000) → (m ≤ 3000) → ((vz n N a) = 0) → ((vz (n + m) (Clu.catN n N M) a) ≠ 0) → False)
  (V27 : (n ≤ 3000) → (m ≤ 3000) → ((vz n N a) ≠ 0) → ((Clu.eqNs (vn n N a) (vN n N a) 0 0) = false) → False)
  (V28 : (n ≤ 3000) → (m ≤ 3000) → ((vz n N a) ≠ 0) → ((Clu.eqNs (vn n N a) (vN n N a) 0 0) = true) → (vx n N a) = 0) : Clu.Fact Try.prog 4 [] [.s n N, .i .i64 a, .s m M, .i .i64 c] (.b true) :=
  Clu.factL Clu.plain (Clu.tell_ok (hX)) Clu.mixed (Clu.noL_ok) (beF_run vn vN vx vz my n N m M a c hX V0 V1 V2 V3 V4 V5 V6 V7 V8 V9 V10 V11 V12 V13 V14 V15 V16 V17 V18 V19 V20 V21 V22 V23 V24 V25 V26 V27 V28) rfl rfl
set_option maxRecDepth 10000000 in
theorem runsA : (Clu.layK [] .e fun h => Clu.runF Try.prog Clu.noX 1000000 1000 9 [] h 1000) = .ok (.b true) := by kernel_rfl
theorem awH_ok : Clu.HandOK Try.prog 9 (Clu.decH awH) := Clu.decH_ok fun args v h => by
  unfold awH at h
  split at h
  · have h : Clu.AV.b true = v := h
    subst h
    exact Clu.fact_of Clu.plain Clu.noX_ok Clu.mixed runsA (by kernel_rfl) (by kernel_rfl)
  · exact h.elim
noncomputable def vnF (n N : Nat) (a : Int) : Nat := (rdV (Clu.lst n N) a).1.length
noncomputable def vNF (n N : Nat) (a : Int) : Nat := Clu.pk (rdV (Clu.lst n N) a).1
noncomputable def vxF (n N : Nat) (a : Int) : Nat := (rdV (Clu.lst n N) a).2.1
noncomputable def vzF (n N : Nat) (a : Int) : Nat := (rdV (Clu.lst n N) a).2.2
theorem rdH_ok {f : FuncId} (hF : ∀ l, Clu.B8 l → l.length ≤ 10000 → ∀ a : Int, Clu.Fact Try.prog f [] [.s l.length (Clu.pk l), .i .i64 a] (.tu (vOut (rdV l a)))) : Clu.HandOK Try.prog f (Clu.decH (rdH vnF vNF vxF vzF)) := Clu.decH_ok fun args v h => by
  unfold rdH at h
  split at h
  · rename_i n N a
    obtain ⟨h1, h2⟩ := h
    have h2 : Clu.AV.tu (vOut (rdV (Clu.lst n N) a)) = v := h2
    subst h2
    have h1 := Clu.blt_iff.1 h1
    refine (hF _ (Clu.lst_b8 n N) (by rw [Clu.lst_length]; omega) a).of rfl fun r xs ⟨x, ys, h1, h2, h3⟩ => ⟨x, ys, h1, Clu.VR.lst.1 h2, h3⟩
  · exact h.elim
theorem asX_ok : Clu.XOK Try.prog (Clu.addB (Clu.addB (Clu.addB (Clu.noX) 9 (Clu.decH awH)) 10 (Clu.decH (rdH vnF vNF vxF vzF))) 12 (Clu.decH (mayH myF))) := Clu.addB_ok (Clu.addB_ok (Clu.addB_ok Clu.noX_ok awH_ok) (rdH_ok fun l h k a => read_fact h k a)) mayH_ok
theorem rdV_fail {l : List Nat} {a : Int} (h : (rdV l a).2.2 ≠ 0) : (rdV l a).1 = [] ∧ (rdV l a).2.1 = 0 := by
  by_cases h0 : 0 ≤ a ∧ a ≤ l.length
  · obtain ⟨x, rfl⟩ := Int.eq_ofNat_of_zero_le h0.1
    exact rd_fail _ _ _ _ _ _ (rdV_go (l := l) (a := x) (by omega)) h
  · unfold rdV; rw [if_neg h0]; exact ⟨rfl, rfl⟩
theorem rdV_nat {l : List Nat} {a : Int} (h : (rdV l a).2.2 = 0) : ∃ x : Nat, a = Int.ofNat x ∧ x ≤ l.length := by
  by_cases h0 : 0 ≤ a ∧ a ≤ l.length
  · obtain ⟨x, rfl⟩ := Int.eq_ofNat_of_zero_le h0.1
    exact ⟨x, rfl, by omega⟩
  · unfold rdV at h; rw [if_neg h0] at h; cases h
theorem rdV_more {l m : List Nat} {a : Int} (h : (rdV l a).2.2 = 0) : rdV (l ++ m) a = rdV l a := by
  obtain ⟨x, rfl, hx⟩ := rdV_nat h
  have g := rd_more (m := m) _ _ _ _ _ _ (rdV_go hx) h
  have g2 := rdV_go (l := l ++ m) (a := x) (by rw [List.length_append]; omega)
  rw [g] at g2
  exact (Option.some.inj g2).symm
theorem rdV_less {l : List Nat} {x p : Nat} (h : (rdV l (Int.ofNat x)).2.2 = 0) (hx : x ≤ p) (hp : p ≤ l.length) : rdV (l.take p) (Int.ofNat x) = rdV l (Int.ofNat x) ∨ rdV (l.take p) (Int.ofNat x) = ([], 0, 4) := by
  have hlt : (l.take p).length = p := by rw [List.length_take]; omega
  have g := rdV_go (l := l) (a := x) (by omega)
  have g2 := rdV_go (l := l.take p) (a := x) (by omega)
  have e : l.take p ++ l.drop p = l := List.take_append_drop ..
  have g3 : rd (l.take p ++ l.drop p) (x + 258) x x 0 [] = some (rdV l (Int.ofNat x)) := by rw [e]; exact g
  rcases rd_less _ _ _ _ _ _ g3 h with q | q
  · rw [q] at g2; exact .inl (Option.some.inj g2).symm
  · rw [q] at g2; exact .inr (Option.some.inj g2).symm
theorem rdV_here {l : List Nat} {x : Nat} (h : (rdV l (Int.ofNat x)).2.2 = 0) (he : (rdV l (Int.ofNat x)).2.1 = x + (rdV l (Int.ofNat x)).1.length) (hp : (rdV l (Int.ofNat x)).2.1 ≤ l.length) : rdV (l.take (rdV l (Int.ofNat x)).2.1) (Int.ofNat x) = rdV l (Int.ofNat x) := by
  have hlt : (l.take (rdV l (Int.ofNat x)).2.1).length = (rdV l (Int.ofNat x)).2.1 := by rw [List.length_take]; omega
  have g := rdV_go (l := l) (a := x) (by omega)
  have g2 := rdV_go (l := l.take (rdV l (Int.ofNat x)).2.1) (a := x) (by omega)
  have e : l.take (rdV l (Int.ofNat x)).2.1 ++ l.drop (rdV l (Int.ofNat x)).2.1 = l := List.take_append_drop ..
  have g3 : rd (l.take (rdV l (Int.ofNat x)).2.1 ++ l.drop (rdV l (Int.ofNat x)).2.1) (x + 258) x x 0 [] = some (rdV l (Int.ofNat x)) := by rw [e]; exact g
  have q := rd_here _ _ _ _ _ g3 h hlt (by simp only [List.length_nil]; omega)
  rw [q] at g2; exact (Option.some.inj g2).symm
theorem v_pk {l : List Nat} (h : Clu.B8 l) (b : Int) : vnF l.length (Clu.pk l) b = (rdV l b).1.length ∧ vNF l.length (Clu.pk l) b = Clu.pk (rdV l b).1 ∧ vxF l.length (Clu.pk l) b = (rdV l b).2.1 ∧ vzF l.length (Clu.pk l) b = (rdV l b).2.2 := by
  unfold vnF vNF vxF vzF
  rw [Clu.lst_pk h]
  exact ⟨rfl, rfl, rfl, rfl⟩
theorem v_cut {l : List Nat} (h : Clu.B8 l) {p : Nat} (hp : p ≤ l.length) (b : Int) : vnF (p - 0) (Clu.maskN (p - 0) (Nat.shiftRight (Clu.pk l) 0)) b = (rdV (l.take p) b).1.length ∧ vNF (p - 0) (Clu.maskN (p - 0) (Nat.shiftRight (Clu.pk l) 0)) b = Clu.pk (rdV (l.take p) b).1 ∧ vxF (p - 0) (Clu.maskN (p - 0) (Nat.shiftRight (Clu.pk l) 0)) b = (rdV (l.take p) b).2.1 ∧ vzF (p - 0) (Clu.maskN (p - 0) (Nat.shiftRight (Clu.pk l) 0)) b = (rdV (l.take p) b).2.2 := by
  have hlt : (l.take p).length = p := by rw [List.length_take]; omega
  have e : Clu.maskN (p - 0) (Nat.shiftRight (Clu.pk l) 0) = Clu.pk (l.take p) := Clu.pk_take l p
  have v := v_pk (h.take p) b
  rw [hlt] at v
  rw [e]
  exact v
theorem sub_nat {A x : Nat} (h : x ≤ A) : Int.ofNat A - Int.ofNat x = Int.ofNat (A - x) := by simp only [Int.ofNat_eq_natCast]; omega
theorem bnd {A x : Nat} (h : A ≤ 10000) (hx : x ≤ A) : -9223372036854775808 ≤ ((A : Nat) : Int) - Int.ofNat x ∧ ((A : Nat) : Int) - Int.ofNat x < 9223372036854775808 := by simp only [Int.ofNat_eq_natCast]; omega
theorem bnd2 {q x : Nat} (h : x + q ≤ 10000) : -9223372036854775808 ≤ Int.ofNat x + ((q : Nat) : Int) ∧ Int.ofNat x + ((q : Nat) : Int) < 9223372036854775808 := by simp only [Int.ofNat_eq_natCast]; omega
theorem eq_sub {A B x : Nat} (hx : x ≤ A) (h : ((B : Nat) : Int) = ((A : Nat) : Int) - Int.ofNat x) : A = x + B := by simp only [Int.ofNat_eq_natCast] at h; omega
theorem law_fact (l : List Nat) (hL : Clu.B8 l) (ll : l.length ≤ maxLen) (a : Int) (h1 : -9223372036854775808 ≤ a) (h2 : a ≤ 9223372036854775807) (m : List Nat) (hM : Clu.B8 m) (lm : m.length ≤ maxLen) (c : Int) (h3 : -9223372036854775808 ≤ c) (h4 : c ≤ 9223372036854775807) : Clu.Fact Try.prog 4 [] [.s l.length (Clu.pk l), .i .i64 a, .s m.length (Clu.pk m), .i .i64 c] (.b true) := by
  have hT : Clu.B8 (l ++ m) := hL.app hM
  have hcat : Clu.catN l.length (Clu.pk l) (Clu.pk m) = Clu.pk (l ++ m) := catN_pk ..
  have hlen : l.length + m.length = (l ++ m).length := by rw [List.length_append]
  obtain ⟨A1, A2, A3, A4⟩ := v_pk hL a
  obtain ⟨T1, T2, T3, T4⟩ := v_pk hT a
  rw [← hlen, ← hcat] at T1 T2 T3 T4
  have b8 := rdV_b8 hL a
  refine beF_law vnF vNF vxF vzF myF _ _ _ _ _ _ asX_ok ?_ ?_ ?_ ?_ ?_ ?_ ?_ ?_ ?_ ?_ ?_ ?_ ?_ ?_ ?_ ?_ ?_ ?_ ?_ ?_ ?_ ?_ ?_ ?_ ?_ ?_ ?_ ?_ ?_
  all_goals
    intro w1 w2 e0
    rw [A4] at e0
    simp only [A1, A2, A3, A4, T1, T2, T3, T4]
  all_goals try
    (have q := rdV_more (m := m) e0
     obtain ⟨n1, n2, n3⟩ := rdV_name e0
     obtain ⟨x, rfl, hx⟩ := rdV_nat e0
     have hp : (rdV l (Int.ofNat x)).2.1 ≤ l.length := Int.ofNat_le.1 n3
     have hax : x < (rdV l (Int.ofNat x)).2.1 := Int.ofNat_lt.1 n2
     obtain ⟨C1, C2, C3, C4⟩ := v_cut hL hp (Int.ofNat x)
     try simp only [C1, C2, C3, C4]
     have same := rdV_less e0 (Nat.le_of_lt hax) hp
     have here := fun k => rdV_here e0 k hp
     have eqs := Clu.eqNs_iff b8 b8
     rw [decide_eq_true rfl] at eqs)
  · intros; exact hp
  · intros; omega
  · intros; exact hp
  · intros; exact ⟨x, rfl⟩
  · intro _ _ _ _ _ _ _ _ y hy; have := Int.ofNat.inj hy; omega
  · intro _ _ _ _ _ _ _ _ y hy _; exact bnd (by omega) (by omega)
  · intro _ _ _ _ _ _ _ _ y hy _ k
    rw [sub_nat (Nat.le_of_lt hax), Clu.modN_nat, Nat.mod_eq_of_lt (show (rdV l (Int.ofNat x)).2.1 - x < 18446744073709551616 by omega)] at k
    omega
  · intro _ _ _ _ _ _ _ _ y hy _
    rw [sub_nat (Nat.le_of_lt hax), Clu.modN_nat, Nat.mod_eq_of_lt (show (rdV l (Int.ofNat x)).2.1 - x < 18446744073709551616 by omega)]
    have := Nat.mod_lt (Clu.modN c 18446744073709551616) (show 0 < (rdV l (Int.ofNat x)).2.1 - x by omega)
    omega
  · intro _ _ _ _ _ _ _ _ y hy _
    rw [sub_nat (Nat.le_of_lt hax), Clu.modN_nat, Nat.mod_eq_of_lt (show (rdV l (Int.ofNat x)).2.1 - x < 18446744073709551616 by omega)]
    have := Nat.mod_lt (Clu.modN c 18446744073709551616) (show 0 < (rdV l (Int.ofNat x)).2.1 - x by omega)
    exact bnd2 (by omega)
  · intro _ _ _ _ _ _ _ _ y hy _
    exact ⟨x + (Clu.modN c 18446744073709551616 % Clu.modN (Int.ofNat (rdV l (Int.ofNat x)).2.1 - Int.ofNat x) 18446744073709551616), rfl⟩
  · intro _ _ _ _ _ _ _ _ y hy _ z hz
    rw [sub_nat (Nat.le_of_lt hax), Clu.modN_nat, Nat.mod_eq_of_lt (show (rdV l (Int.ofNat x)).2.1 - x < 18446744073709551616 by omega)] at hz
    have := Nat.mod_lt (Clu.modN c 18446744073709551616) (show 0 < (rdV l (Int.ofNat x)).2.1 - x by omega)
    have hz : x + Clu.modN c 18446744073709551616 % ((rdV l (Int.ofNat x)).2.1 - x) = z := Int.ofNat.inj hz
    omega
  · intro _ _ _ _ _ _ _ _ y hy _ z hz
    rw [sub_nat (Nat.le_of_lt hax), Clu.modN_nat, Nat.mod_eq_of_lt (show (rdV l (Int.ofNat x)).2.1 - x < 18446744073709551616 by omega)] at hz
    have := Nat.mod_lt (Clu.modN c 18446744073709551616) (show 0 < (rdV l (Int.ofNat x)).2.1 - x by omega)
    have hz : x + Clu.modN c 18446744073709551616 % ((rdV l (Int.ofNat x)).2.1 - x) = z := Int.ofNat.inj hz
    omega
  · intro _ _ _ _ _ _ _ _ y hy _ z hz
    rw [sub_nat (Nat.le_of_lt hax), Clu.modN_nat, Nat.mod_eq_of_lt (show (rdV l (Int.ofNat x)).2.1 - x < 18446744073709551616 by omega)] at hz
    have := Nat.mod_lt (Clu.modN c 18446744073709551616) (show 0 < (rdV l (Int.ofNat x)).2.1 - x by omega)
    have hz : x + Clu.modN c 18446744073709551616 % ((rdV l (Int.ofNat x)).2.1 - x) = z := Int.ofNat.inj hz
    rw [(v_cut hL (p := z) (by omega) (Int.ofNat x)).2.2.2]
    rcases rdV_less e0 (p := z) (by omega) (by omega) with q1 | q1
    · have := (rdV_name (l := l.take z) (a := Int.ofNat x) (by rw [q1]; exact e0)).2.2
      rw [q1, List.length_take] at this
      have := Int.ofNat_le.1 this
      omega
    · rw [q1]
  · intros; exact bnd (by omega) (by omega)
  · intro _ _ _ _ _ _ _ k1 k2
    rw [here (eq_sub (Nat.le_of_lt hax) k2)] at k1; exact k1 rfl
  · intro _ _ _ _ _ _ _ k1 _
    rcases same with s | s
    · rw [s] at k1; exact absurd rfl k1
    · rw [s]
  · intros; exact bnd (by omega) (by omega)
  · intro _ _ _ _ _ _ k1 k2
    rw [here (eq_sub (Nat.le_of_lt hax) k2), eqs] at k1; cases k1
  · intro _ _ _ _ _ _ k1 _
    rcases same with s | s
    · rw [s, eqs] at k1; cases k1
    · rw [s]
  · intros; exact bnd (by omega) (by omega)
  · intro _ _ _ _ _ k1 k2
    rw [here (eq_sub (Nat.le_of_lt hax) k2)] at k1; exact k1 e0
  · intro _ _ _ _ _ k1 _
    rcases same with s | s
    · rw [s] at k1; exact absurd e0 k1
    · rw [s]
  · intro _ _ _ _ k; omega
  · intro _ _ _ k; omega
  · intro _ _ k; rw [q] at k; exact k rfl
  · intro _ k; rw [q, eqs] at k; cases k
  · intro k; rw [q] at k; exact k e0
  · intro k; rw [(rdV_fail e0).1] at k; cases k
  · intro _; exact (rdV_fail e0).2

end Go.Proofs.Ythghohgjedjpbaa.compBehind
