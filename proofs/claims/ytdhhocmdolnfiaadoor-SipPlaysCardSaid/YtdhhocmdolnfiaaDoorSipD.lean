/-
  Sip: what Write and Sum come to.
-/
import Derived.Test.YtdhhocmdolnfiaaDoorSipC
namespace Go.Proofs.YtdhhocmdolnfiaaDoor
open Go.RowKit
set_option linter.unusedVariables false
set_option maxRecDepth 100000
/-- the four numbers -/
structure Q4 where
  (a b c d : Nat)
def Q4.rd (r0 r1 r2 r3 : Nat → Nat → Nat → Nat → Nat) (q : Q4) : Q4 := ⟨r0 q.a q.b q.c q.d, r1 q.a q.b q.c q.d, r2 q.a q.b q.c q.d, r3 q.a q.b q.c q.d⟩
def Q4.ad (a0 a1 a2 a3 : Nat → Nat → Nat → Nat → Nat → Nat) (q : Q4) (m : Nat) : Q4 := ⟨a0 q.a q.b q.c q.d m, a1 q.a q.b q.c q.d m, a2 q.a q.b q.c q.d m, a3 q.a q.b q.c q.d m⟩
noncomputable def xorU (x y : Nat) : Nat := Clu.modN (Int.ofNat (Nat.xor (Clu.modN (Int.ofNat x) 18446744073709551616) (Clu.modN (Int.ofNat y) 18446744073709551616))) 18446744073709551616
noncomputable def Q4.x255 (q : Q4) : Q4 := ⟨q.a, q.b, xorU q.c 255, q.d⟩
noncomputable def Q4.all (q : Q4) : Nat := xorU (xorU (xorU q.a q.b) q.c) q.d
noncomputable def maskQ (q : Q4) : Q4 := ⟨xorU q.a 8317987319222330741, xorU q.b 7237128888997146477, xorU q.c 7816392313619706465, xorU q.d 8387220255154660723⟩
/-- what Sum answers -/
noncomputable def sumN (r0 r1 r2 r3 : Nat → Nat → Nat → Nat → Nat) (a0 a1 a2 a3 : Nat → Nat → Nat → Nat → Nat → Nat) (nu : Nat → Nat → Nat → Nat → Nat → Nat → Nat → Nat → Nat) (s : H13) : Nat :=
  (Q4.rd r0 r1 r2 r3 (Q4.rd r0 r1 r2 r3 (Q4.rd r0 r1 r2 r3 (Q4.rd r0 r1 r2 r3 ((maskQ ⟨s.k0, s.k1, s.k2, s.k3⟩).ad a0 a1 a2 a3 (nu s.l0 s.l1 s.l2 s.l3 s.l4 s.l5 s.l6 (Clu.modN (Int.ofNat s.m) 256))).x255)))).all
set_option maxRecDepth 10000000 in
theorem sum_run (r0 r1 r2 r3 : Nat → Nat → Nat → Nat → Nat) (a0 a1 a2 a3 : Nat → Nat → Nat → Nat → Nat → Nat) (nu : Nat → Nat → Nat → Nat → Nat → Nat → Nat → Nat → Nat) (s : H13) :
    Clu.runC Clu.noL Tryd.prog (sipX3 r0 r1 r2 r3 a0 a1 a2 a3 nu) 1000 1000 17 [.p 1000 0] (Clu.mkH (Clu.mkH .e (Clu.layB masks)) [(1000, .c s.cells 0 0 (some 67))]) 1001 [(1000, 0, 0, some 67)] = .ok (.tu [.i .u64 (.ofNat (sumN r0 r1 r2 r3 a0 a1 a2 a3 nu s)), .ag s.cells]) := by kernel_rfl
theorem sum_ (r0 r1 r2 r3 : Nat → Nat → Nat → Nat → Nat) (a0 a1 a2 a3 : Nat → Nat → Nat → Nat → Nat → Nat) (nu : Nat → Nat → Nat → Nat → Nat → Nat → Nat → Nat → Nat) (s : H13) (hX : Clu.XOK Tryd.prog (sipX3 r0 r1 r2 r3 a0 a1 a2 a3 nu)) : Clu.PtrOK Tryd.prog 17 67 masks s.cells [] (.i .u64 (.ofNat (sumN r0 r1 r2 r3 a0 a1 a2 a3 nu s))) s.cells :=
  ⟨rfl, rfl, rfl, rfl, (Clu.con_of (cs := [s.cells]) (bl0 := [(1000, .c s.cells 0 0 (some 67))]) Clu.plain hX (Clu.drK_ok Clu.mixed) Clu.noL_ok (sum_run r0 r1 r2 r3 a0 a1 a2 a3 nu s) (Clu.layB_bs rfl (by decide) (by decide)) (by decide) rfl (by simp [Clu.Blk.und, H13.cells, Clu.AV.und, Clu.AV.unds]) rfl (Clu.newH_ro rfl) (by simp [H13.cells, Clu.AV.und, Clu.AV.unds])).2⟩
/-- what a Hash holds, unmasked, and back -/
noncomputable def H13.open_ (s : H13) : S13 := ⟨(maskQ ⟨s.k0, s.k1, s.k2, s.k3⟩).a, (maskQ ⟨s.k0, s.k1, s.k2, s.k3⟩).b, (maskQ ⟨s.k0, s.k1, s.k2, s.k3⟩).c, (maskQ ⟨s.k0, s.k1, s.k2, s.k3⟩).d, s.l0, s.l1, s.l2, s.l3, s.l4, s.l5, s.l6, s.l7, s.m⟩
noncomputable def S13.shut (g : S13) : H13 := ⟨(maskQ ⟨g.v0, g.v1, g.v2, g.v3⟩).a, (maskQ ⟨g.v0, g.v1, g.v2, g.v3⟩).b, (maskQ ⟨g.v0, g.v1, g.v2, g.v3⟩).c, (maskQ ⟨g.v0, g.v1, g.v2, g.v3⟩).d, g.l0, g.l1, g.l2, g.l3, g.l4, g.l5, g.l6, g.l7, g.m⟩
/-- what Write leaves -/
noncomputable def wrN (G : S13 → Nat → Nat → S13) (s : H13) (n N : Nat) : H13 := (G s.open_ n N).shut
def LoopW (G : S13 → Nat → Nat → S13) (fuel : Nat) (s : S13) (n N k0 k1 k2 k3 : Nat) : Prop := Clu.LoopQ Tryd.prog (Clu.loopNo Tryd.f15 0) fuel 60 1000 ([(1000, .c (s.hc k0 k1 k2 k3) 0 0 (some 67)), (1003, .c s.vc 0 0 (some 64))] ++ Clu.layB masks) 1004 2 [0, 1, 4, 5, 15, 16] [.p 1000 0, .s n N, .i .i64 (.ofNat 0), .p 1003 0, .i .i64 (.ofNat n), .i .i64 (.ofNat 0)] [8, 17, 43] [0, 1, 4, 5, 15, 16] [.p 1000 0, .s n N, .i .i64 (.ofNat 0), .p 1003 0, .i .i64 (.ofNat n), .i .i64 (.ofNat n)] ([(1000, .c ((G s n N).hc k0 k1 k2 k3) 0 0 (some 67)), (1003, .c (G s n N).vc 0 0 (some 64))] ++ Clu.layB masks) 1004
set_option maxRecDepth 10000000 in
theorem write_raw (r0 r1 r2 r3 : Nat → Nat → Nat → Nat → Nat) (a0 a1 a2 a3 : Nat → Nat → Nat → Nat → Nat → Nat) (nu : Nat → Nat → Nat → Nat → Nat → Nat → Nat → Nat → Nat) (G : S13 → Nat → Nat → S13) (s : H13) (n N : Nat) :
    Clu.runC (wrL G) Tryd.prog (sipX3 r0 r1 r2 r3 a0 a1 a2 a3 nu) 1000000 1000 15 [.p 1000 0, .s n N] (Clu.mkH (Clu.mkH .e (Clu.layB masks)) [(1000, .c s.cells 0 0 (some 67))]) 1001 [(1000, 0, 0, some 67)] =
      Clu.needP (Clu.loopNo Tryd.f15 0 = Clu.loopNo Tryd.f15 0) (fun _ => .err 91 0) fun _ => Clu.needP (LoopW G 999994 s.open_ n N s.k0 s.k1 s.k2 s.k3) (fun _ => .err 93 1) fun _ => .ok (.tu [.i .i64 (.ofNat 0), .ag (wrN G s n N).cells]) := by kernel_rfl
theorem write_ (r0 r1 r2 r3 : Nat → Nat → Nat → Nat → Nat) (a0 a1 a2 a3 : Nat → Nat → Nat → Nat → Nat → Nat) (nu : Nat → Nat → Nat → Nat → Nat → Nat → Nat → Nat → Nat) (G : S13 → Nat → Nat → S13) (s : H13) (n N : Nat) (hX : Clu.XOK Tryd.prog (sipX3 r0 r1 r2 r3 a0 a1 a2 a3 nu)) (hG : LoopW G 999994 s.open_ n N s.k0 s.k1 s.k2 s.k3) :
    Clu.PtrOK Tryd.prog 15 67 masks s.cells [.s n N] (.i .i64 (.ofNat 0)) (wrN G s n N).cells :=
  ⟨rfl, rfl, rfl, rfl, (Clu.con_of (cs := [(wrN G s n N).cells]) (bl0 := [(1000, .c s.cells 0 0 (some 67))]) Clu.plain hX (Clu.drK_ok Clu.mixed) (wrL_ok G) (((write_raw r0 r1 r2 r3 a0 a1 a2 a3 nu G s n N).trans (Clu.needP_eq rfl _ _)).trans (Clu.needP_eq hG _ _)) (Clu.layB_bs rfl (by decide) (by decide)) (by decide) rfl (by simp [Clu.Blk.und, H13.cells, Clu.AV.und, Clu.AV.unds]) rfl (Clu.newH_ro rfl) (by simp [H13.cells, Clu.AV.und, Clu.AV.unds])).2⟩
def FWrite (w : H13 → Nat → Nat → H13) (cs rest : List Clu.AV) : Option (Clu.AV × List Clu.AV) := match cs, rest with
  | [.i .u64 (.ofNat k0), .i .u64 (.ofNat k1), .i .u64 (.ofNat k2), .i .u64 (.ofNat k3), .i .u8 (.ofNat l0), .i .u8 (.ofNat l1), .i .u8 (.ofNat l2), .i .u8 (.ofNat l3), .i .u8 (.ofNat l4), .i .u8 (.ofNat l5), .i .u8 (.ofNat l6), .i .u8 (.ofNat l7), .i .i64 (.ofNat m)], [.s n N] => some (.i .i64 (.ofNat 0), (w ⟨k0, k1, k2, k3, l0, l1, l2, l3, l4, l5, l6, l7, m⟩ n N).cells)
  | _, _ => none
def BWrite (cs rest : List Clu.AV) : List Bool := match cs, rest with
  | [_, _, _, _, _, _, _, _, _, _, _, _, .i _ (.ofNat m)], [.s n _] => [Nat.ble n 100000, Nat.ble m 1000000000]
  | _, _ => [false]
def FSum (sm : H13 → Nat) (cs rest : List Clu.AV) : Option (Clu.AV × List Clu.AV) := match cs, rest with
  | [.i .u64 (.ofNat k0), .i .u64 (.ofNat k1), .i .u64 (.ofNat k2), .i .u64 (.ofNat k3), .i .u8 (.ofNat l0), .i .u8 (.ofNat l1), .i .u8 (.ofNat l2), .i .u8 (.ofNat l3), .i .u8 (.ofNat l4), .i .u8 (.ofNat l5), .i .u8 (.ofNat l6), .i .u8 (.ofNat l7), .i .i64 (.ofNat m)], [] => some (.i .u64 (.ofNat (sm ⟨k0, k1, k2, k3, l0, l1, l2, l3, l4, l5, l6, l7, m⟩)), cs)
  | _, _ => none
noncomputable def sipX (w : H13 → Nat → Nat → H13) (sm : H13 → Nat) : Clu.XT := Clu.addB (Clu.addB Clu.noX 15 (Clu.ptrB BWrite 67 masks (FWrite w))) 17 (Clu.ptrH 67 masks (FSum sm))
/-- the program's own -/
noncomputable def pG (s : S13) (n N : Nat) : S13 := S13.go pAd0 pAd1 pAd2 pAd3 pNum N n 0 s
noncomputable def pW : H13 → Nat → Nat → H13 := wrN pG
noncomputable def pSum : H13 → Nat := sumN pRd0 pRd1 pRd2 pRd3 pAd0 pAd1 pAd2 pAd3 pNum
theorem writeH_ok : Clu.HandOK Tryd.prog 15 (Clu.ptrB BWrite 67 masks (FWrite pW)) := Clu.ptrB_ok rfl fun cs rest v cs' h hb => by
  unfold FWrite at h
  split at h
  · cases h
    exact write_ pRd0 pRd1 pRd2 pRd3 pAd0 pAd1 pAd2 pAd3 pNum pG ⟨_, _, _, _, _, _, _, _, _, _, _, _, _⟩ _ _ sipX3_ok ((wr_loop sipX3_ok (by have := Clu.ble_iff.1 (hb _ (List.mem_cons_self ..)); omega) _ 0 _ (Nat.zero_add _) (by have := Clu.ble_iff.1 (hb _ (List.mem_cons_self ..)); have := Clu.ble_iff.1 (hb _ (List.mem_cons_of_mem _ (List.mem_cons_self ..))); simp only [H13.open_]; omega)).upto (by have := Clu.ble_iff.1 (hb _ (List.mem_cons_self ..)); omega))
  · cases h
theorem sumH_ok : Clu.HandOK Tryd.prog 17 (Clu.ptrH 67 masks (FSum pSum)) := Clu.ptrH_ok rfl fun cs rest v cs' h => by
  unfold FSum at h
  split at h
  · cases h
    exact sum_ _ _ _ _ _ _ _ _ _ ⟨_, _, _, _, _, _, _, _, _, _, _, _, _⟩ sipX3_ok
  · cases h
theorem sipX_ok : Clu.XOK Tryd.prog (sipX pW pSum) := Clu.addB_ok (Clu.addB_ok Clu.noX_ok writeH_ok) sumH_ok
end Go.Proofs.YtdhhocmdolnfiaaDoor
