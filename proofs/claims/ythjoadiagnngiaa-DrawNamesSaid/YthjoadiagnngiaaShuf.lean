import Derived.Test.YthjoadiagnngiaaBelow
import Derived.BigRegion
namespace Go.Proofs.Ythjoadiagnngiaa
open Go.RowKit
set_option linter.unusedVariables false

def shufStep (l : List Nat) (i d : Nat) : List Nat := (l.set i (l.getD (d % (i + 1)) 0)).set (d % (i + 1)) (l.getD i 0)
/-- the exchanges at i, i - 1, .., 1, by the draws from u on -/
def shuf (draw : Nat → Nat) : Nat → Nat → List Nat → List Nat
  | _, 0, l => l
  | u, i + 1, l => shuf draw (u + 1) i (shufStep l (i + 1) (draw u))
theorem shufStep_len (l : List Nat) (i d : Nat) : (shufStep l i d).length = l.length := by simp [shufStep]
def i64s (l : List Nat) : List Value := l.map fun n : Nat => Value.int .i64 (n : Int)

theorem info_int : (Try.prog.info? 3).map (fun i => (i.zero, i.size, i.bytes)) = some (some (.int .i64 0), 1, 8) := by kernel_rfl

def fillTo (n k : Nat) : List Value := i64s (List.range k) ++ List.replicate (n - k) (Value.int .i64 0)
theorem fillTo_len (n k : Nat) (h : k ≤ n) : (fillTo n k).length = n := by simp [fillTo, i64s]; omega
theorem fillTo_step (n k : Nat) (h : k < n) : (fillTo n k).set k (Value.int .i64 (k : Int)) = fillTo n (k + 1) := by
  obtain ⟨d, rfl⟩ : ∃ d, n = k + 1 + d := ⟨n - k - 1, by omega⟩
  simp only [fillTo, i64s]
  rw [show k + 1 + d - k = d + 1 from by omega, show k + 1 + d - (k + 1) = d from by omega, List.range_succ, List.map_append, List.replicate_succ]
  rw [List.set_append_right _ _ (by simp)]
  simp
theorem fillTo_zero (n : Nat) : (madeCells #[Value.int .i64 0] n).toList = fillTo n 0 := by
  rw [toList_madeCells_one]
  simp [fillTo, i64s]
theorem fillTo_all (n : Nat) : fillTo n n = i64s (List.range n) := by simp [fillTo]

theorem shuf_next (draw : Nat → Nat) (U m d : Nat) (l : List Nat) (hm : 1 ≤ m) (hd : d = draw U % (m + 1)) : shuf draw U m l = shuf draw (U + 1) (m - 1) ((l.set m (l.getD d 0)).set d (l.getD m 0)) := by
  obtain ⟨m', rfl⟩ : ∃ m', m = m' + 1 := ⟨m - 1, by omega⟩
  rw [show m' + 1 - 1 = m' from rfl, hd]
  rfl
theorem i64s_set (l : List Nat) (i x : Nat) : (i64s l).set i (Value.int .i64 (x : Int)) = i64s (l.set i x) := by simp [i64s, List.map_set]

theorem swap_end {w w2 wr : World} {p k m d x y u seed : Nat} {first l : List Nat} (hpn : p < w.heap.size) (hgm : w.grownBy wr (some p)) (hg2 : wr.grownBy w2 (some p)) (hm : m ≤ k - 1) (h0 : 1 ≤ m)
    (hx : x = l.getD m 0) (hy : y = l.getD d 0) (hl : l.length = k) (hd : d = drawAt seed first (u + (k - 1 - m)) % (m + 1))
    (hI : shuf (drawAt seed first) (u + (k - 1 - m)) m l = shuf (drawAt seed first) u (k - 1) (List.range k))
    (ho : w2.ownsRow w.heap.size 3 1 (.slice (some ⟨w.heap.size, 0, none⟩) k k) k (i64s l)) (hT : Tape w2 p seed first (u + (k - 1 - m) + 1)) :
    ∃ (m' : Nat) (l' : List Nat), m' ≤ k - 1 ∧ Value.int .i64 ((m : Int) - 1) = .int .i64 m' ∧ l'.length = k ∧ ((w2.setCell ⟨w.heap.size, m, none⟩ (.int .i64 (y : Int))).setCell ⟨w.heap.size, d, none⟩ (.int .i64 (x : Int))).drew.ownsRow w.heap.size 3 1 (.slice (some ⟨w.heap.size, 0, none⟩) k k) k (i64s l') ∧
      Tape ((w2.setCell ⟨w.heap.size, m, none⟩ (.int .i64 (y : Int))).setCell ⟨w.heap.size, d, none⟩ (.int .i64 (x : Int))).drew p seed first (u + (k - 1 - m')) ∧ w.grownBy ((w2.setCell ⟨w.heap.size, m, none⟩ (.int .i64 (y : Int))).setCell ⟨w.heap.size, d, none⟩ (.int .i64 (x : Int))).drew (some p) ∧
          shuf (drawAt seed first) (u + (k - 1 - m')) m' l' = shuf (drawAt seed first) u (k - 1) (List.range k) := by
  have s1 := ho.stored m (.int .i64 (y : Int))
  have s2 := s1.1.stored d (.int .i64 (x : Int))
  have e : u + (k - 1 - m) + 1 = u + (k - 1 - (m - 1)) := by omega
  have g12 : w2.grownBy ((w2.setCell ⟨w.heap.size, m, none⟩ (.int .i64 (y : Int))).setCell ⟨w.heap.size, d, none⟩ (.int .i64 (x : Int))).drew (some w.heap.size) := grown_trans (grown_trans s1.2 s2.2) (grown_drew _ _)
  refine ⟨m - 1, (l.set m y).set d x, by omega, by rw [show ((m - 1 : Nat) : Int) = (m : Int) - 1 from by omega], by simpa using hl, ?_, ?_, ?_, ?_⟩
  · rw [← i64s_set, ← i64s_set]; exact s2.1
  · rw [← e]
    obtain ⟨fv, hp, hs⟩ := hT
    refine ⟨fv, heap_kept g12 hp (by simp; omega), hs.imp id ?_⟩
    rintro ⟨bf, bs, v, rfl, hf, hb, hov, hsl⟩
    have hgrow : w2.heap[w.heap.size]? ≠ none := by
      rcases ho.2 with ⟨h, _⟩ | ⟨g, cap, cur, h, _, hh, _⟩
      · simp at h
      · simp at h; rw [h.1, hh]; simp
    obtain ⟨cs, hh⟩ : ∃ cs, w2.heap[w.heap.size]? = some (.cells cs 3 (0, 0)) := by
      rcases ho.2 with ⟨h, _⟩ | ⟨g, cap, cur, h, _, hh, _⟩
      · simp at h
      · simp at h; exact ⟨cur, by rw [h.1, hh]⟩
    exact ⟨bf, bs, v, rfl, heap_kept g12 hf (fun e => heap_ne hf hh (by decide) (by simpa using e)), heap_kept g12 hb (fun e => heap_ne hb hh (by decide) (by simpa using e)), hov.kept g12 (.inr (own_ne hov hh (by decide))), hsl⟩
  · exact grown_new (grown_trans hgm hg2) g12 (Nat.le_refl _)
  · rw [← e, ← hI, shuf_next _ _ m d l h0 hd, hx, hy]

set_option maxHeartbeats 400000 in
theorem shuffle_no (p : Nat) (n : Int) (w : World) (hn : n < 1 ∨ 256 < n) :
    Calls Try.prog 17 #[.pointer (some ⟨p, 0, none⟩), .int .i64 n] w fun e w' => e = .returned (.slice none 0 0) ∧ w = w' := by
  by_cases h : n < 1
  · go_enter Try.func17, Try.ntmps17
    go_wp2
    go_ret
    exact ⟨rfl, rfl⟩
  · have h2 : 256 < n := by omega
    go_enter Try.func17, Try.ntmps17
    go_wp2
    go_ret
    exact ⟨rfl, rfl⟩

set_option maxHeartbeats 2000000 in
theorem shuffle_any (p : Nat) (n : Nat) (seed : Nat) (first : List Nat) (u : Nat) (w : World) (h : Tape w p seed first u) (hu : u < 4611686018427387000) (hn : 1 ≤ n) (hn2 : n ≤ 256) :
    Calls Try.prog 17 #[.pointer (some ⟨p, 0, none⟩), .int .i64 (n : Int)] w fun e w' => ∃ g, e = .returned (.slice (some ⟨g, 0, none⟩) n n) ∧
      w'.ownsRow w.heap.size 3 1 (.slice (some ⟨g, 0, none⟩) n n) n (i64s (shuf (drawAt seed first) u (n - 1) (List.range n))) ∧ Tape w' p seed first (u + (n - 1)) ∧ w.grownBy w' (some p) := by
  have h1 : ¬ (n : Int) < 1 := by omega
  have h2 : ¬ 256 < (n : Int) := by omega
  have hb8 : 8 * n ≤ 281474976710656 := by omega
  have hml : n ≤ maxLen := by unfold maxLen; omega
  obtain ⟨i0, hi, hz0, hz1, hz2⟩ := info_parts info_int
  go_enter Try.func17, Try.ntmps17
  go_wp2_with (refine wpList_make_full _ rfl _ _ 34 rfl w.heap.size 3 i0 (.int .i64 0) 1 Try.underlying34 hi hz0 hz1 .i64 .i64 _ _ n rfl rfl rfl rfl (by rw [hz2]; exact hb8) hml (Nat.le_refl _) ?_)
  intro w1 hown hg1
  rw [fillTo_zero] at hown
  go_wp2
  go_loopw [23] (fun i wr => ∃ k : Nat, k ≤ n ∧ i = .int .i64 k ∧ wr.ownsRow w.heap.size 3 1 (.slice (some ⟨w.heap.size, 0, none⟩) n n) n (fillTo n k) ∧ w.grownBy wr none) (fun i _ => n - (intOf i).toNat)
  case atStart => exact ⟨0, Nat.zero_le _, rfl, hown, hg1⟩
  case round =>
    obtain ⟨k, hk, rfl, hownr, hgr⟩ := hrel
    by_cases hlt : k < n
    · have hst := hownr.stored k (.int .i64 (k : Int))
      rw [fillTo_step n k hlt] at hst
      have hcl : wr.cell? ⟨w.heap.size, k, none⟩ = some ((fillTo n k).getD k (.int .i64 0)) := by
        rw [hownr.cellAt k (by omega), List.getElem?_eq_getElem (by rw [fillTo_len n k hk]; exact hlt), List.getD_eq_getElem?_getD, List.getElem?_eq_getElem (by rw [fillTo_len n k hk]; exact hlt)]
        rfl
      have hfr : wr.frozen? ⟨w.heap.size, k, none⟩ = false := hownr.frozenAt k
      have HS := Lib.hid hst; clear hst
      go_wp2
      go_roundw
      case rel => exact ⟨k + 1, by omega, by go_num, HS.out.1, grown_new hgr HS.out.2 (Nat.le_refl _)⟩
      case measure => simp [intOf]; omega
    · obtain rfl : k = n := by omega
      clear hlt hown hg1
      have hT := h.grown hgr
      have hpn : p < w.heap.size := by obtain ⟨_, hp, _⟩ := h; exact lt_of_block hp
      rw [fillTo_all] at hownr
      have hgp := grown_none' hgr (some p)
      clear hgr
      go_wp2
      go_loopw [7] (fun i wr => ∃ (m : Nat) (l : List Nat), m ≤ k - 1 ∧ i = .int .i64 m ∧ l.length = k ∧ wr.ownsRow w.heap.size 3 1 (.slice (some ⟨w.heap.size, 0, none⟩) k k) k (i64s l) ∧ Tape wr p seed first (u + (k - 1 - m)) ∧ w.grownBy wr (some p) ∧
          shuf (drawAt seed first) (u + (k - 1 - m)) m l = shuf (drawAt seed first) u (k - 1) (List.range k)) (fun i _ => (intOf i).toNat)
      case atStart => exact ⟨k - 1, List.range k, Nat.le_refl _, by go_num, by simp, hownr, by simpa using hT, hgp, by simp⟩
      case round =>
        obtain ⟨m, l, hm, rfl, hl, hownm, hTm, hgm, hinv⟩ := hrel
        by_cases h0 : m = 0
        · subst h0
          go_wp2
          go_ret
          refine ⟨w.heap.size, rfl, ?_, by simpa using hTm, hgm⟩
          rw [← hinv]
          exact hownm
        · have hpos : (0 : Int) < (m : Int) := by omega
          obtain ⟨d, hd⟩ : ∃ d, d = drawAt seed first (u + (k - 1 - m)) % (m + 1) := ⟨_, rfl⟩
          have hdm : d < m + 1 := by rw [hd]; exact Nat.mod_lt _ (by omega)
          have HD := Lib.hid hd
          have HI := Lib.hid hinv
          have HL := Lib.hid hl
          have hB : ∀ x : Int, x = ((m + 1 : Nat) : Int) → Calls Try.prog 15 #[.pointer (some ⟨p, 0, none⟩), .int .i64 x] wr fun e w' => e = .returned (.int .i64 (d : Int)) ∧ Tape w' p seed first (u + (k - 1 - m) + 1) ∧ wr.grownBy w' (some p) := by
            rintro x rfl
            rw [hd]
            exact below_any p (m + 1) seed first _ wr hTm (by omega) (by omega) (by omega)
          have HB := Lib.hid hB
          clear hd hinv hl hB
          go_wp2_with ((with_reducible refine (HB.out _ (by omega)).mono ?_); rintro e w2 ⟨rfl, hT2, hg2⟩)
          have hown2 := hownm.kept hg2 (.inr (by simp [Value.ownBlock]; omega))
          obtain ⟨x, hx⟩ : ∃ x, x = l.getD m 0 := ⟨_, rfl⟩
          obtain ⟨y, hy⟩ : ∃ y, y = l.getD d 0 := ⟨_, rfl⟩
          have hcm : w2.cell? ⟨w.heap.size, m, none⟩ = some (.int .i64 (x : Int)) := by
            have := HL.out
            rw [hown2.cellAt m (by omega), hx]; simp [i64s, List.getElem?_map, List.getElem?_eq_getElem (show m < l.length by omega)]
          have hcd : w2.cell? ⟨w.heap.size, d, none⟩ = some (.int .i64 (y : Int)) := by
            have := HL.out
            rw [hown2.cellAt d (by omega), hy]; simp [i64s, List.getElem?_map, List.getElem?_eq_getElem (show d < l.length by omega)]
          have hfm : w2.frozen? ⟨w.heap.size, m, none⟩ = false := hown2.frozenAt m
          have hfd : w2.frozen? ⟨w.heap.size, d, none⟩ = false := hown2.frozenAt d
          have HX := Lib.hid hx
          have HY := Lib.hid hy
          clear hx hy
          have b1 : (m : Int) < (k : Int) := by omega
          have b2 : (d : Int) < (k : Int) := by omega
          have HT2 := Lib.hid hT2
          have HO2 := Lib.hid hown2
          clear hT2 hown2 hownm hTm
          have hsw : (w2.cell? ⟨w.heap.size, d, none⟩).isSome = true := by rw [hcd]; rfl
          by_cases hdmm : d = m
          · subst hdmm
            have exy : x = y := by rw [HX.out, HY.out]
            subst exy
            go_region
            go_wp2
            go_roundw
            case rel => exact swap_end hpn hgm hg2 hm (by omega) HX.out HY.out HL.out HD.out HI.out HO2.out HT2.out
            case measure => simp [intOf]; omega
          · go_region
            go_wp2
            go_roundw
            case rel => exact swap_end hpn hgm hg2 hm (by omega) HX.out HY.out HL.out HD.out HI.out HO2.out HT2.out
            case measure => simp [intOf]; omega
end Go.Proofs.Ythjoadiagnngiaa
