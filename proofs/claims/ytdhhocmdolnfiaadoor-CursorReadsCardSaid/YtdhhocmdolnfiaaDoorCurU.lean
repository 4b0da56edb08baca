/-
  The cursor: taking so many bytes that are there, and bytes read as numbers.
-/
import Derived.Test.YtdhhocmdolnfiaaDoorCluErr
import Derived.Test.YtdhhocmdolnfiaaDoorCluG1
import Derived.Test.YtdhhocmdolnfiaaDoorCluN1
import Derived.Test.YtdhhocmdolnfiaaDoorCluS4
namespace Go.Proofs.YtdhhocmdolnfiaaDoor
open Go.RowKit
set_option linter.unusedVariables false
set_option linter.unusedSimpArgs false
set_option maxRecDepth 100000
namespace Clu
theorem argB_bsu {al : List (Nat × List AV)} {lays : List (Nat × List AV)} {lim nx : Nat} (hl : (lays.all fun x => Nat.blt x.1 1000 && AV.unds nx x.2) = true) (ha : ∀ x ∈ al, x.1 < lim ∧ AV.flts x.2 = true) (h1 : 1000 ≤ lim) (h2 : lim ≤ nx) : Bs lim nx (argB al ++ layB lays) := by
  refine ⟨fun x hx => ?_, h2, fun x hx => ?_⟩
  · rcases List.mem_append.1 hx with hx | hx
    · obtain ⟨cs, q1, _⟩ := argB_mem (id := x.1) (b := x.2) hx
      exact (ha _ q1).1
    · obtain ⟨cs, q1, q2⟩ := layB_mem (id := x.1) (b := x.2) hx
      have := List.all_eq_true.1 hl _ q1
      simp only [Bool.and_eq_true] at this
      have := blt_iff.1 this.1
      omega
  · rcases List.mem_append.1 hx with hx | hx
    · obtain ⟨cs, q1, q2⟩ := argB_mem (id := x.1) (b := x.2) hx
      rw [q2]
      exact flts_unds (ha _ q1).2
    · obtain ⟨cs, q1, q2⟩ := layB_mem (id := x.1) (b := x.2) hx
      have := List.all_eq_true.1 hl _ q1
      simp only [Bool.and_eq_true] at this
      rw [q2]
      exact this.2
/-- bytes read as a number: the program's way, the document's way -/
theorem nu1 {b : Nat} (h : b < 256) : wrapF .u32 (Int.ofNat (Nat.lor 0 (modN (wrapF .u32 (Int.ofNat b)) 4294967296))) = Int.ofNat b := by
  simp only [u32_nat, modN_nat, lor_0]
  congr 1
  omega
theorem nus {a b : Nat} (ha : a < 16777216) (h : b < 256) : wrapF .u32 (Int.ofNat (Nat.lor (modN (wrapF .u32 (Int.ofNat a * Int.ofNat 256)) 4294967296) (modN (wrapF .u32 (Int.ofNat b)) 4294967296))) = Int.ofNat (a * 256 + b) := by
  simp only [u32_nat, modN_nat, mul_nat]
  have e2 : b % 4294967296 % 4294967296 = b := by omega
  have e3 : a * 256 % 4294967296 % 4294967296 = a * 256 := by omega
  rw [e2, e3, lor_256 a b h]
  congr 1
  omega
theorem nv1 {b : Nat} (h : b < 256) : wrapF .u64 (Int.ofNat 0 + wrapF .u64 (Int.ofNat b)) = Int.ofNat b := by
  simp only [u64_nat, add_nat]
  congr 1
  omega
theorem nvs {a b : Nat} (ha : a < 16777216) (h : b < 256) : wrapF .u64 (wrapF .u64 (Int.ofNat 256 * Int.ofNat a) + wrapF .u64 (Int.ofNat b)) = Int.ofNat (a * 256 + b) := by
  simp only [u64_nat, add_nat, mul_nat]
  congr 1
  omega
theorem num1 {b0 c0 : Nat} (e0 : b0 = c0) (h0 : c0 < 256) : wrapF .u64 (wrapF .u8 (wrapF .u32 (Int.ofNat (Nat.lor 0 (modN (wrapF .u32 (Int.ofNat b0)) 4294967296))))) = wrapF .u64 (Int.ofNat 0 + wrapF .u64 (Int.ofNat c0)) := by
  subst e0
  rw [nu1 h0, nv1 h0, u8_nat, u64_nat]
  congr 1
  omega
theorem num2 {b0 c0 b1 c1 : Nat} (e0 : b0 = c0) (e1 : b1 = c1) (h0 : c0 < 256) (h1 : c1 < 256) : wrapF .u64 (wrapF .u16 (wrapF .u32 (Int.ofNat (Nat.lor (modN (wrapF .u32 (wrapF .u32 (Int.ofNat (Nat.lor 0 (modN (wrapF .u32 (Int.ofNat b0)) 4294967296))) * Int.ofNat 256)) 4294967296) (modN (wrapF .u32 (Int.ofNat b1)) 4294967296))))) = wrapF .u64 (wrapF .u64 (Int.ofNat 256 * wrapF .u64 (Int.ofNat 0 + wrapF .u64 (Int.ofNat c0))) + wrapF .u64 (Int.ofNat c1)) := by
  subst e0 e1
  rw [nu1 h0, nus (by omega) h1, nv1 h0, nvs (by omega) h1, u16_nat, u64_nat]
  congr 1
  omega
theorem num4 {b0 c0 b1 c1 b2 c2 b3 c3 : Nat} (e0 : b0 = c0) (e1 : b1 = c1) (e2 : b2 = c2) (e3 : b3 = c3) (h0 : c0 < 256) (h1 : c1 < 256) (h2 : c2 < 256) (h3 : c3 < 256) :
    wrapF .u64 (wrapF .u32 (Int.ofNat (Nat.lor (modN (wrapF .u32 (wrapF .u32 (Int.ofNat (Nat.lor (modN (wrapF .u32 (wrapF .u32 (Int.ofNat (Nat.lor (modN (wrapF .u32 (wrapF .u32 (Int.ofNat (Nat.lor 0 (modN (wrapF .u32 (Int.ofNat b0)) 4294967296))) * Int.ofNat 256)) 4294967296) (modN (wrapF .u32 (Int.ofNat b1)) 4294967296))) * Int.ofNat 256)) 4294967296) (modN (wrapF .u32 (Int.ofNat b2)) 4294967296))) * Int.ofNat 256)) 4294967296) (modN (wrapF .u32 (Int.ofNat b3)) 4294967296)))) =
      wrapF .u64 (wrapF .u64 (Int.ofNat 256 * wrapF .u64 (wrapF .u64 (Int.ofNat 256 * wrapF .u64 (wrapF .u64 (Int.ofNat 256 * wrapF .u64 (Int.ofNat 0 + wrapF .u64 (Int.ofNat c0))) + wrapF .u64 (Int.ofNat c1))) + wrapF .u64 (Int.ofNat c2))) + wrapF .u64 (Int.ofNat c3)) := by
  subst e0 e1 e2 e3
  rw [nu1 h0, nus (by omega) h1, nus (by omega) h2, nus (by omega) h3, nv1 h0, nvs (by omega) h1, nvs (by omega) h2, nvs (by omega) h3, u64_nat]
  congr 1
  omega
end Clu
set_option maxRecDepth 10000000 in
theorem tk47_run_raw (n N a m : Nat) : (Clu.runC (Clu.noL) Tryd.prog (Clu.tell Clu.noX 47 10000591000029) 1000 1000 47 [.p 1000 0, .i .i64 (.ofNat m)] (Clu.mkH (Clu.mkH .e (Clu.layB [])) [(1000, .c [.s n N, .i .i64 (.ofNat a)] 0 0 (some 81))]) 1001 [(1000, 0, 0, some 81)]) = Clu.needT (Clu.inR IntKind.i64 (Int.ofNat n - Int.ofNat a)) (.err 10 20) (Clu.needF (Clu.iLt (Int.ofNat n - Int.ofNat a) (Int.ofNat m)) (.err 42 2) (Clu.needT (Clu.inR IntKind.i64 (Int.ofNat a + Int.ofNat m)) (.err 10 20) (Clu.needT (Nat.ble (a + m) n) (.err 20 0) (Clu.needT (Nat.ble a (a + m)) (.err 20 0) (Clu.needT (Clu.inR IntKind.i64 (Int.ofNat a + Int.ofNat m)) (.err 10 20) (Clu.Out.ok (Clu.AV.tu [(Clu.AV.tu [(Clu.AV.s (Nat.sub (a + m) a) (Clu.maskN (Nat.sub (a + m) a) (Nat.shiftRight N (Nat.mul 8 a)))), Clu.AV.ni]), (Clu.AV.ag [(Clu.AV.s (n) (N)), (Clu.AV.i IntKind.i64 (Int.ofNat (a + m)))])]))))))) := by kernel_rfl
set_option maxHeartbeats 4000000 in
set_option linter.unusedSimpArgs false in
theorem tk47_run (n N a m : Nat) (hn : n ≤ 140737488351232) (h : a + m ≤ n) : (Clu.runC (Clu.noL) Tryd.prog (Clu.tell Clu.noX 47 10000591000029) 1000 1000 47 [.p 1000 0, .i .i64 (.ofNat m)] (Clu.mkH (Clu.mkH .e (Clu.layB [])) [(1000, .c [.s n N, .i .i64 (.ofNat a)] 0 0 (some 81))]) 1001 [(1000, 0, 0, some 81)]) = Clu.Out.ok (Clu.AV.tu [(Clu.AV.tu [(Clu.AV.s (Nat.sub (a + m) a) (Clu.maskN (Nat.sub (a + m) a) (Nat.shiftRight N (Nat.mul 8 a)))), Clu.AV.ni]), (Clu.AV.ag [(Clu.AV.s (n) (N)), (Clu.AV.i IntKind.i64 (Int.ofNat (a + m)))])]) := by
  rw [tk47_run_raw]
  refine (Clu.needT_eq (show _ = true by exact Clu.inR_t (by (try simp only [Int.ofNat_eq_natCast, Nat.add_eq, Nat.sub_eq, Nat.mul_eq, Nat.succ_eq_add_one]); omega) (by (try simp only [Int.ofNat_eq_natCast, Nat.add_eq, Nat.sub_eq, Nat.mul_eq, Nat.succ_eq_add_one]); omega)) _ _).trans ?_
  refine (Clu.needF_eq (show _ = false by exact Clu.iLt_f (by (try simp only [Int.ofNat_eq_natCast, Nat.add_eq, Nat.sub_eq, Nat.mul_eq, Nat.succ_eq_add_one]); omega)) _ _).trans ?_
  refine (Clu.needT_eq (show _ = true by exact Clu.inR_t (by (try simp only [Int.ofNat_eq_natCast, Nat.add_eq, Nat.sub_eq, Nat.mul_eq, Nat.succ_eq_add_one]); omega) (by (try simp only [Int.ofNat_eq_natCast, Nat.add_eq, Nat.sub_eq, Nat.mul_eq, Nat.succ_eq_add_one]); omega)) _ _).trans ?_
  refine (Clu.needT_eq (show _ = true by exact Clu.ble_iff.2 (by (try simp only [Int.ofNat_eq_natCast, Nat.add_eq, Nat.sub_eq, Nat.mul_eq, Nat.succ_eq_add_one]); omega)) _ _).trans ?_
  refine (Clu.needT_eq (show _ = true by exact Clu.ble_iff.2 (by (try simp only [Int.ofNat_eq_natCast, Nat.add_eq, Nat.sub_eq, Nat.mul_eq, Nat.succ_eq_add_one]); omega)) _ _).trans ?_
  refine (Clu.needT_eq (show _ = true by exact Clu.inR_t (by (try simp only [Int.ofNat_eq_natCast, Nat.add_eq, Nat.sub_eq, Nat.mul_eq, Nat.succ_eq_add_one]); omega) (by (try simp only [Int.ofNat_eq_natCast, Nat.add_eq, Nat.sub_eq, Nat.mul_eq, Nat.succ_eq_add_one]); omega)) _ _).trans ?_
  rfl

theorem tk47 (n N a m : Nat) (hn : n ≤ 140737488351232) (h : a + m ≤ n) : Clu.PtrOK Tryd.prog 47 81 [] [.s n N, .i .i64 (.ofNat a)] [.i .i64 (.ofNat m)] (Clu.AV.tu [(Clu.AV.s (Nat.sub (a + m) a) (Clu.maskN (Nat.sub (a + m) a) (Nat.shiftRight N (Nat.mul 8 a)))), Clu.AV.ni]) [(Clu.AV.s (n) (N)), (Clu.AV.i IntKind.i64 (Int.ofNat (a + m)))] :=
  ⟨rfl, rfl, rfl, rfl, (Clu.con_of (cs := [[(Clu.AV.s (n) (N)), (Clu.AV.i IntKind.i64 (Int.ofNat (a + m)))]]) (bl0 := [(1000, .c [.s n N, .i .i64 (.ofNat a)] 0 0 (some 81))]) Clu.plain (Clu.tell_ok Clu.noX_ok) (Clu.drK_ok Clu.mixed) (Clu.noL_ok) (tk47_run n N a m hn h) (Clu.layB_bs rfl (by decide) (by decide)) (by decide) rfl (by simp [Clu.Blk.und, Clu.AV.und, Clu.AV.unds]) rfl (Clu.newH_ro rfl) (by simp [Clu.AV.und, Clu.AV.unds])).2⟩
set_option maxRecDepth 10000000 in
theorem tk40_run_raw (n N a m : Nat) : (Clu.runC (Clu.noL) Tryd.prog (Clu.tell Clu.noX 40 10000411000017) 1000 1000 40 [.p 1000 0, .i .i64 (.ofNat m)] (Clu.mkH (Clu.mkH .e (Clu.layB [])) [(1000, .c [.s n N, .i .i64 (.ofNat a)] 0 0 (some 46))]) 1001 [(1000, 0, 0, some 46)]) = Clu.needT (Clu.inR IntKind.i64 (Int.ofNat n - Int.ofNat a)) (.err 10 20) (Clu.needF (Clu.iLt (Int.ofNat n - Int.ofNat a) (Int.ofNat m)) (.err 42 2) (Clu.needT (Clu.inR IntKind.i64 (Int.ofNat a + Int.ofNat m)) (.err 10 20) (Clu.needT (Nat.ble (a + m) n) (.err 20 0) (Clu.needT (Nat.ble a (a + m)) (.err 20 0) (Clu.needT (Clu.inR IntKind.i64 (Int.ofNat a + Int.ofNat m)) (.err 10 20) (Clu.Out.ok (Clu.AV.tu [(Clu.AV.tu [(Clu.AV.s (Nat.sub (a + m) a) (Clu.maskN (Nat.sub (a + m) a) (Nat.shiftRight N (Nat.mul 8 a)))), (Clu.AV.i IntKind.i64 (Int.ofNat 0))]), (Clu.AV.ag [(Clu.AV.s (n) (N)), (Clu.AV.i IntKind.i64 (Int.ofNat (a + m)))])]))))))) := by kernel_rfl
set_option maxHeartbeats 4000000 in
set_option linter.unusedSimpArgs false in
theorem tk40_run (n N a m : Nat) (hn : n ≤ 140737488351232) (h : a + m ≤ n) : (Clu.runC (Clu.noL) Tryd.prog (Clu.tell Clu.noX 40 10000411000017) 1000 1000 40 [.p 1000 0, .i .i64 (.ofNat m)] (Clu.mkH (Clu.mkH .e (Clu.layB [])) [(1000, .c [.s n N, .i .i64 (.ofNat a)] 0 0 (some 46))]) 1001 [(1000, 0, 0, some 46)]) = Clu.Out.ok (Clu.AV.tu [(Clu.AV.tu [(Clu.AV.s (Nat.sub (a + m) a) (Clu.maskN (Nat.sub (a + m) a) (Nat.shiftRight N (Nat.mul 8 a)))), (Clu.AV.i IntKind.i64 (Int.ofNat 0))]), (Clu.AV.ag [(Clu.AV.s (n) (N)), (Clu.AV.i IntKind.i64 (Int.ofNat (a + m)))])]) := by
  rw [tk40_run_raw]
  refine (Clu.needT_eq (show _ = true by exact Clu.inR_t (by (try simp only [Int.ofNat_eq_natCast, Nat.add_eq, Nat.sub_eq, Nat.mul_eq, Nat.succ_eq_add_one]); omega) (by (try simp only [Int.ofNat_eq_natCast, Nat.add_eq, Nat.sub_eq, Nat.mul_eq, Nat.succ_eq_add_one]); omega)) _ _).trans ?_
  refine (Clu.needF_eq (show _ = false by exact Clu.iLt_f (by (try simp only [Int.ofNat_eq_natCast, Nat.add_eq, Nat.sub_eq, Nat.mul_eq, Nat.succ_eq_add_one]); omega)) _ _).trans ?_
  refine (Clu.needT_eq (show _ = true by exact Clu.inR_t (by (try simp only [Int.ofNat_eq_natCast, Nat.add_eq, Nat.sub_eq, Nat.mul_eq, Nat.succ_eq_add_one]); omega) (by (try simp only [Int.ofNat_eq_natCast, Nat.add_eq, Nat.sub_eq, Nat.mul_eq, Nat.succ_eq_add_one]); omega)) _ _).trans ?_
  refine (Clu.needT_eq (show _ = true by exact Clu.ble_iff.2 (by (try simp only [Int.ofNat_eq_natCast, Nat.add_eq, Nat.sub_eq, Nat.mul_eq, Nat.succ_eq_add_one]); omega)) _ _).trans ?_
  refine (Clu.needT_eq (show _ = true by exact Clu.ble_iff.2 (by (try simp only [Int.ofNat_eq_natCast, Nat.add_eq, Nat.sub_eq, Nat.mul_eq, Nat.succ_eq_add_one]); omega)) _ _).trans ?_
  refine (Clu.needT_eq (show _ = true by exact Clu.inR_t (by (try simp only [Int.ofNat_eq_natCast, Nat.add_eq, Nat.sub_eq, Nat.mul_eq, Nat.succ_eq_add_one]); omega) (by (try simp only [Int.ofNat_eq_natCast, Nat.add_eq, Nat.sub_eq, Nat.mul_eq, Nat.succ_eq_add_one]); omega)) _ _).trans ?_
  rfl

theorem tk40 (n N a m : Nat) (hn : n ≤ 140737488351232) (h : a + m ≤ n) : Clu.PtrOK Tryd.prog 40 46 [] [.s n N, .i .i64 (.ofNat a)] [.i .i64 (.ofNat m)] (Clu.AV.tu [(Clu.AV.s (Nat.sub (a + m) a) (Clu.maskN (Nat.sub (a + m) a) (Nat.shiftRight N (Nat.mul 8 a)))), (Clu.AV.i IntKind.i64 (Int.ofNat 0))]) [(Clu.AV.s (n) (N)), (Clu.AV.i IntKind.i64 (Int.ofNat (a + m)))] :=
  ⟨rfl, rfl, rfl, rfl, (Clu.con_of (cs := [[(Clu.AV.s (n) (N)), (Clu.AV.i IntKind.i64 (Int.ofNat (a + m)))]]) (bl0 := [(1000, .c [.s n N, .i .i64 (.ofNat a)] 0 0 (some 46))]) Clu.plain (Clu.tell_ok Clu.noX_ok) (Clu.drK_ok Clu.mixed) (Clu.noL_ok) (tk40_run n N a m hn h) (Clu.layB_bs rfl (by decide) (by decide)) (by decide) rfl (by simp [Clu.Blk.und, Clu.AV.und, Clu.AV.unds]) rfl (Clu.newH_ro rfl) (by simp [Clu.AV.und, Clu.AV.unds])).2⟩
/-- what stands for taking so many bytes that are there -/
def FTake (tn : Int → Nat) (tk : Nat → Nat → Nat → Nat) (e : Clu.AV) (cs rest : List Clu.AV) : Option (Clu.AV × List Clu.AV) := match cs, rest with
  | [.s n N, .i .i64 (.ofNat a)], [.i .i64 z] => some (.tu [.s (Nat.sub (a + tn z) a) (tk N a (tn z)), e], [.s n N, .i .i64 (.ofNat (a + tn z))])
  | _, _ => none
def BTake (tn : Int → Nat) (cs rest : List Clu.AV) : List Bool := match cs, rest with
  | [.s n N, .i .i64 (.ofNat a)], [.i .i64 z] => [Nat.ble n 140737488351232, Clu.iEq z (.ofNat (tn z)), Nat.ble (a + tn z) n]
  | _, _ => [false]
noncomputable def tkX (tn : Int → Nat) (tk : Nat → Nat → Nat → Nat) : Clu.XT := Clu.addB (Clu.addB Clu.xErr 47 (Clu.ptrB (BTake tn) 81 [] (FTake tn tk .ni))) 40 (Clu.ptrB (BTake tn) 46 [] (FTake tn tk (.i .i64 (.ofNat 0))))
def pTk (N a m : Nat) : Nat := Clu.maskN (Nat.sub (a + m) a) (Nat.shiftRight N (Nat.mul 8 a))
theorem take_ok {f ty : Nat} {e : Clu.AV} (H : ∀ n N a m, n ≤ 140737488351232 → a + m ≤ n → Clu.PtrOK Tryd.prog f ty [] [.s n N, .i .i64 (.ofNat a)] [.i .i64 (.ofNat m)] (.tu [.s (Nat.sub (a + m) a) (pTk N a m), e]) [.s n N, .i .i64 (.ofNat (a + m))]) : Clu.HandOK Tryd.prog f (Clu.ptrB (BTake Int.toNat) ty [] (FTake Int.toNat pTk e)) :=
  Clu.ptrB_ok rfl fun cs rest v cs' hF hB => by
    unfold FTake at hF
    split at hF
    · rename_i n N a z
      simp only [Option.some.injEq, Prod.mk.injEq] at hF
      obtain ⟨rfl, rfl⟩ := hF
      have b1 := Clu.ble_iff.1 (hB _ (List.mem_cons_self ..))
      have b2 := hB _ (List.mem_cons_of_mem _ (List.mem_cons_self ..))
      have b3 := Clu.ble_iff.1 (hB _ (List.mem_cons_of_mem _ (List.mem_cons_of_mem _ (List.mem_cons_self ..))))
      rw [Clu.iEq_eq] at b2
      have b2 : z = Int.ofNat z.toNat := by simpa using b2
      have := H n N a z.toNat b1 b3
      rw [← b2] at this
      exact this
    · cases hF
theorem tkX_ok : Clu.XOK Tryd.prog (tkX Int.toNat pTk) := Clu.addB_ok (Clu.addB_ok Clu.xErr_ok (take_ok fun n N a m h1 h2 => tk47 n N a m h1 h2)) (take_ok fun n N a m h1 h2 => tk40 n N a m h1 h2)
end Go.Proofs.YtdhhocmdolnfiaaDoor
