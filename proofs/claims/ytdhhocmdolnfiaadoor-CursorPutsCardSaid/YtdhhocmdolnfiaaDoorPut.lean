import Derived.Test.YtdhhocmdolnfiaaDoorCalls
namespace Go.Proofs.YtdhhocmdolnfiaaDoor
open Go.RowKit
set_option linter.unusedVariables false

def u8s (l : List UInt8) : List Value := l.map fun b => Value.int .u8 (b.toNat : Int)
theorem u8s_len (l : List UInt8) : (u8s l).length = l.length := by simp [u8s]
theorem u8s_one (l : List UInt8) : ∀ u ∈ u8s l, u.oneCell' = true := by
  intro u hu; obtain ⟨n, _, rfl⟩ := List.mem_map.1 hu; rfl
theorem u8s_append (l m : List UInt8) : u8s (l ++ m) = u8s l ++ u8s m := by simp [u8s]

/-- a slice of bytes, wherever they lie -/
def Bytes (w : World) (v : Value) (l : List UInt8) : Prop :=
  ∃ ao c, v = .slice ao l.length c ∧ (ao = none → l.length = 0 ∧ c = 0) ∧ ∀ ad, ao = some ad → ∀ t u, (u8s l)[t]? = some u → w.cell? (ad.add t) = some u

theorem info_u8 : (Tryd.prog.info? 5).map (fun i => (i.zero, i.size, i.bytes)) = some (some (.int .u8 0), 1, 1) := by kernel_rfl

theorem Bytes.grown {w w' : World} {v : Value} {l : List UInt8} {row : Option Nat} (h : Bytes w v l) (hg : w.grownBy w' row) (hr : v.ownBlock = none ∨ l = [] ∨ v.ownBlock ≠ row) : Bytes w' v l := by
  obtain ⟨ao, c, rfl, h1, h2⟩ := h
  refine ⟨ao, c, rfl, h1, fun ad ha t u hu => ?_⟩
  subst ha
  have hc := h2 ad rfl t u hu
  refine hg.cell hc ?_
  simp only [Value.ownBlock, Addr.add] at hr ⊢
  rcases hr with h | h | h
  · simp at h
  · subst h; simp [u8s] at hu
  · split <;> exact h
theorem Bytes.of_own {w : World} {base n : Nat} {v : Value} {l : List UInt8} (h : w.ownsRow base 5 1 v n (u8s l)) : Bytes w v l := by
  have hn : n = l.length := by have := h.1; rw [u8s_len] at this; omega
  subst hn
  rcases h.2 with ⟨rfl, h0⟩ | ⟨g, cap, cur, rfl, _⟩
  · exact ⟨none, 0, by rw [h0], fun _ => ⟨h0, rfl⟩, fun _ h => by cases h⟩
  · refine ⟨_, cap, rfl, (fun h => by cases h), fun ad ha t u hu => ?_⟩
    obtain rfl := Option.some.inj ha
    have ht := (List.getElem?_eq_some_iff.1 hu).1
    rw [u8s_len] at ht
    rw [Addr.add_lit, Nat.zero_add, h.cellAt t (by omega)]; exact hu

set_option maxHeartbeats 1000000 in
theorem fresh_any (ao ao' : Option Addr) (c c' : Nat) (l m : List UInt8) (w : World) (hl : l.length + m.length ≤ 1000000)
    (h1 : ao = none → l.length = 0 ∧ c = 0) (h2 : ∀ ad, ao = some ad → ∀ t u, (u8s l)[t]? = some u → w.cell? (ad.add t) = some u)
    (h1' : ao' = none → m.length = 0 ∧ c' = 0) (h2' : ∀ ad, ao' = some ad → ∀ t u, (u8s m)[t]? = some u → w.cell? (ad.add t) = some u) :
    Calls Tryd.prog 42 #[.slice ao l.length c, .slice ao' m.length c'] w fun e w' => ∃ g, e = .returned (.slice (some ⟨g, 0, none⟩) (l.length + m.length) (l.length + m.length)) ∧
      w'.ownsRow w.heap.size 5 1 (.slice (some ⟨g, 0, none⟩) (l.length + m.length) (l.length + m.length)) (l.length + m.length) (u8s (l ++ m)) ∧ w.grownBy w' none := by
  obtain ⟨i0, hi, hz0, hz1, hz2⟩ := info_parts info_u8
  have H1 := Lib.hid h1; clear h1
  have H2 := Lib.hid h2; clear h2
  have H1' := Lib.hid h1'; clear h1'
  have H2' := Lib.hid h2'; clear h2'
  have hb : i0.bytes * (l.length + m.length) ≤ 281474976710656 := by rw [hz2]; omega
  have hml : l.length + m.length ≤ maxLen := by unfold maxLen; omega
  have hll := u8s_len l
  have hlm := u8s_len m
  generalize hL : u8s l = L at hll H2
  generalize hM : u8s m = M at hlm H2'
  have h1L : ∀ u ∈ L, u.oneCell' = true := by rw [← hL]; exact u8s_one l
  have h1M : ∀ u ∈ M, u.oneCell' = true := by rw [← hM]; exact u8s_one m
  have HL := Lib.hid hL; have HM := Lib.hid hM
  clear hL hM
  have HLL := Lib.hid hll; have HLM := Lib.hid hlm
  clear hll hlm
  have H1L := Lib.hid h1L; have H1M := Lib.hid h1M
  clear h1L h1M
  have HB := Lib.hid hb; clear hb
  go_enter Tryd.func42, Tryd.ntmps42
  go_wp2_with (refine wpList_make_own _ rfl _ _ 51 rfl w.heap.size 5 i0 (.int .u8 0) 1 Tryd.underlying51 hi hz0 hz1 .i64 .i64 _ (l.length + m.length) rfl rfl (by omega) HB.out hml (Nat.le_refl _) ?_)
  intro w1 hown1 hg1
  go_wp2_with (at_builtin; refine wpList_append_fits_any _ rfl (.tmp 12) (.tmp 13) 51 rfl w.heap.size 5 i0 1 Tryd.underlying51 hi hz1 w.heap.size 0 (l.length + m.length) [] rfl hown1 ao l.length c L rfl ?a1 ?a2 ?a3 ?a4 ?a5 ?_)
  case a1 => rw [Nat.mul_one]; exact HLL.out
  case a2 => exact H1.out
  case a3 => exact fun ad ha j u hu => hg1.cell (H2.out ad ha j u hu) (by simp)
  case a4 => exact H1L.out
  case a5 => omega
  intro w2 hown2 hg2
  try simp only [Nat.zero_add, List.nil_append] at hown2
  go_wp2_with (at_builtin; refine wpList_append_fits_any _ rfl (.tmp 14) (.tmp 15) 51 rfl w.heap.size 5 i0 1 Tryd.underlying51 hi hz1 w.heap.size l.length (l.length + m.length) L rfl hown2 ao' m.length c' M rfl ?b1 ?b2 ?b3 ?b4 ?b5 ?_)
  case b1 => rw [Nat.mul_one]; exact HLM.out
  case b2 => exact H1'.out
  case b3 =>
    intro ad ha j u hu
    have hw := H2'.out ad ha j u hu
    have hlt := World.block_lt_of_cell? _ _ hw
    exact hg2.cell (hg1.cell hw (by simp)) (by simp; omega)
  case b4 => exact H1M.out
  case b5 => omega
  intro w3 hown3 hg3
  go_wp2
  go_ret
  refine ⟨w.heap.size, rfl, ?_, grown_new (grown_new hg1 hg2 (Nat.le_refl _)) hg3 (Nat.le_refl _)⟩
  rw [u8s_append, HL.out, HM.out]
  exact hown3

theorem lit_bytes (w : World) (m : List UInt8) (cs : Array Value) (h : cs.toList = u8s m) (hl : m.length ≤ 8) :
    ∀ ad, (some ⟨w.heap.size, 0, none⟩ : Option Addr) = some ad → ∀ t u, (u8s m)[t]? = some u → (w.alloc (.cells cs 5)).cell? (ad.add t) = some u := by
  intro ad ha t u hu
  obtain rfl := Option.some.inj ha
  rw [Addr.add_lit, Nat.zero_add, cell_of_row _ w.heap.size t cs 5 (0, 0) (heap_alloc_new w _), ← hu, ← h]
  simp

theorem bytes_alloc {w : World} {ao : Option Addr} {l : List UInt8} (h2 : ∀ ad, ao = some ad → ∀ t u, (u8s l)[t]? = some u → w.cell? (ad.add t) = some u) (o : Obj) :
    ∀ ad, ao = some ad → ∀ t u, (u8s l)[t]? = some u → (w.alloc o).cell? (ad.add t) = some u := fun ad ha t u hu => (World.grownBy_alloc w o none).cell (h2 ad ha t u hu) (by simp)

/-- the bytes of a number -/
def be2 (n : Nat) : List UInt8 := [UInt8.ofNat (n / 256), UInt8.ofNat n]
def be4 (n : Nat) : List UInt8 := [UInt8.ofNat (n / 16777216), UInt8.ofNat (n / 65536), UInt8.ofNat (n / 256), UInt8.ofNat n]

def Put (w : World) (l : List UInt8) (e : Ending) (w' : World) : Prop := ∃ g, e = .returned (.slice (some ⟨g, 0, none⟩) l.length l.length) ∧ w'.ownsRow w.heap.size 5 1 (.slice (some ⟨g, 0, none⟩) l.length l.length) l.length (u8s l) ∧ w.grownBy w' none

set_option maxHeartbeats 1000000 in
theorem put1_any (v : Value) (l : List UInt8) (n : Nat) (w : World) (hl : l.length ≤ 900000) (hn : n < 256) (h : Bytes w v l) :
    Calls Tryd.prog 24 #[v, .int .u8 (n : Int)] w (Put w (l ++ [UInt8.ofNat n])) := by
  obtain ⟨ao, c, rfl, h1, h2⟩ := h
  have F := Lib.hid (fresh_any ao (some ⟨w.heap.size, 0, none⟩) c 1 l [UInt8.ofNat n] (w.alloc (.cells #[.int .u8 (n : Int)] 5)) (by simp; omega) h1 (bytes_alloc h2 _) (fun h => by cases h) (lit_bytes w [UInt8.ofNat n] #[.int .u8 (n : Int)] (by simp [u8s]; omega) (by simp)))
  clear h1 h2
  go_enter Tryd.func24, Tryd.ntmps24
  go_wp2_with fail
  refine F.out.mono ?_
  rintro e w1 ⟨g, rfl, hown, hg⟩
  go_wp2
  go_ret
  exact ⟨g, by simp, by simpa using own_base hown (by simp), grown_trans (World.grownBy_alloc _ _ _) hg⟩

set_option maxHeartbeats 1000000 in
theorem put2_any (v : Value) (l : List UInt8) (n : Nat) (w : World) (hl : l.length ≤ 900000) (hn : n < 65536) (h : Bytes w v l) :
    Calls Tryd.prog 26 #[v, .int .u16 (n : Int)] w (Put w (l ++ be2 n)) := by
  obtain ⟨ao, c, rfl, h1, h2⟩ := h
  have F := Lib.hid (fresh_any ao (some ⟨w.heap.size, 0, none⟩) c 2 l (be2 n) (w.alloc (.cells #[.int .u8 ((n : Int) / 256), .int .u8 ((n : Int) % 256)] 5)) (by simp [be2]; omega) h1 (bytes_alloc h2 _) (fun h => by cases h) (lit_bytes w (be2 n) #[.int .u8 ((n : Int) / 256), .int .u8 ((n : Int) % 256)] (by simp [u8s, be2]; omega) (by simp [be2])))
  clear h1 h2
  go_enter Tryd.func26, Tryd.ntmps26
  go_wp2_with fail
  refine F.out.mono ?_
  rintro e w1 ⟨g, rfl, hown, hg⟩
  go_wp2
  go_ret
  exact ⟨g, by simp [be2], by simpa using own_base hown (by simp), grown_trans (World.grownBy_alloc _ _ _) hg⟩

set_option maxHeartbeats 1000000 in
theorem put4_any (v : Value) (l : List UInt8) (n : Nat) (w : World) (hl : l.length ≤ 900000) (hn : n < 4294967296) (h : Bytes w v l) :
    Calls Tryd.prog 27 #[v, .int .u32 (n : Int)] w (Put w (l ++ be4 n)) := by
  obtain ⟨ao, c, rfl, h1, h2⟩ := h
  have F := Lib.hid (fresh_any ao (some ⟨w.heap.size, 0, none⟩) c 4 l (be4 n) (w.alloc (.cells #[.int .u8 ((n : Int) / 16777216), .int .u8 ((n : Int) / 65536 % 256), .int .u8 ((n : Int) / 256 % 256), .int .u8 ((n : Int) % 256)] 5)) (by simp [be4]; omega) h1 (bytes_alloc h2 _) (fun h => by cases h) (lit_bytes w (be4 n) #[.int .u8 ((n : Int) / 16777216), .int .u8 ((n : Int) / 65536 % 256), .int .u8 ((n : Int) / 256 % 256), .int .u8 ((n : Int) % 256)] (by simp [u8s, be4]; omega) (by simp [be4])))
  clear h1 h2
  go_enter Tryd.func27, Tryd.ntmps27
  go_wp2_with fail
  refine F.out.mono ?_
  rintro e w1 ⟨g, rfl, hown, hg⟩
  go_wp2
  go_ret
  exact ⟨g, by simp [be4], by simpa using own_base hown (by simp), grown_trans (World.grownBy_alloc _ _ _) hg⟩
end Go.Proofs.YtdhhocmdolnfiaaDoor
