import Derived.Test.YthjoadiagnngiaaRow
import Derived.Test.YthjoadiagnngiaaShufM
import Derived.Deep.QuietTactic
import Derived.BigQuiet
namespace Go.Proofs.Ythjoadiagnngiaa
open Go.RowKit
set_option linter.unusedVariables false

set_option maxHeartbeats 2000000 in
theorem row_long (seed n : Int) (a : Option Addr) (len cap : Nat) (w : World) (hl : 2000 < len) :
    Calls Try.prog 7 #[.int .u64 seed, .slice a len cap, .int .i64 n] w fun e w' => e = .returned (.bool true) ∧ Below w.heap.size w w' := by
  have h1 : (2000 : Int) < (len : Int) := by omega
  go_enter Try.func7, Try.ntmps7
  go_wp2_with fail
  refine (awake_any _).mono ?_
  rintro e w1 ⟨rfl, hb1⟩
  go_wp2
  go_ret
  exact ⟨rfl, hb1⟩

theorem num256 (n : Int) : ∃ N : Nat, 1 ≤ N ∧ N ≤ 256 ∧ IntKind.i64.wrap (1 + IntKind.i64.wrap ((IntKind.u64.wrap n).tmod 256)) = (N : Int) ∧ wrap64 (1 + wrap64 ((IntKind.u64.wrap n).tmod 256)) = (N : Int) ∧ 1 + wrap64 ((IntKind.u64.wrap n).tmod 256) = (N : Int) := by
  have h := wrap_u64_range n
  rw [Int.tmod_eq_emod_of_nonneg h.1]
  have e1 : wrap64 (IntKind.u64.wrap n % 256) = IntKind.u64.wrap n % 256 := IntWalk.wrap64_in _ ⟨by omega, by omega⟩
  have e2 : IntKind.i64.wrap (IntKind.u64.wrap n % 256) = IntKind.u64.wrap n % 256 := IntWalk.i64_in _ ⟨by omega, by omega⟩
  refine ⟨(1 + IntKind.u64.wrap n % 256).toNat, by omega, by omega, ?_, ?_, ?_⟩
  · rw [e2, IntWalk.i64_in _ ⟨by omega, by omega⟩]; omega
  · rw [e1, IntWalk.wrap64_in _ ⟨by omega, by omega⟩]; omega
  · rw [e1]; omega

def falses : Array Value := Array.replicate 256 (.bool false)
theorem zero_seen (w : World) : (zeroValue 49).run Try.prog w = .ok (.agg falses) w := by kernel_rfl

/-- the block of 'seen': which numbers have been met -/
def Seen (w : World) (b : Nat) (f : Nat → Bool) : Prop := ∃ cs, w.heap[b]? = some (.cells cs 49 (0, 0)) ∧ cs.size = 256 ∧ ∀ k, k < 256 → cs[k]? = some (.bool (f k))
theorem Seen.new (w : World) : Seen (w.alloc (.cells falses 49)) w.heap.size fun _ => false := by
  refine ⟨falses, heap_alloc_new _ _, by simp [falses], fun k hk => ?_⟩
  simp [falses, hk]
theorem Seen.cell {w : World} {b : Nat} {f : Nat → Bool} (h : Seen w b f) (k : Nat) (hk : k < 256) : w.cell? ⟨b, k, none⟩ = some (.bool (f k)) ∧ w.frozen? ⟨b, k, none⟩ = false := by
  obtain ⟨cs, hb, hs, hc⟩ := h
  exact ⟨by rw [cell_of_row w b k _ _ _ hb]; exact hc k hk, frozen_of_row w b k _ _ hb⟩
theorem Seen.store {w : World} {b : Nat} {f : Nat → Bool} (h : Seen w b f) (k : Nat) (hk : k < 256) : Seen (w.setCell ⟨b, k, none⟩ (.bool true)) b fun j => if j = k then true else f j := by
  obtain ⟨cs, hb, hs, hc⟩ := h
  refine ⟨cs.setIfInBounds k (.bool true), heap_setCell_same w b k cs _ _ hb, by simpa using hs, fun j hj => ?_⟩
  by_cases e : j = k
  · subst e; simp [hs, hj]
  · have e' : ¬ k = j := fun x => e x.symm
    simp only [Array.getElem?_setIfInBounds, e', if_false, e]
    exact hc j hj

/-- the places n - 1, .., m + 1 -/
def placesTo (n m : Nat) : List Nat := (List.range (n - 1 - m)).map fun j => n - 1 - j
theorem placesTo_len (n m : Nat) (h : m ≤ n - 1) : (placesTo n m).length = n - 1 - m := by simp [placesTo]
theorem placesTo_step (n m : Nat) (h0 : 1 ≤ m) (h : m ≤ n - 1) : placesTo n m ++ [m] = placesTo n (m - 1) := by
  unfold placesTo
  rw [show n - 1 - (m - 1) = n - 1 - m + 1 from by omega, List.range_succ, List.map_append]
  simp; omega
theorem places_draw (seed n : Nat) : ∀ j, j < n - 1 → drawAt seed (placesTo n 0) (0 + j) = n - 1 - j := by
  intro j hj
  rw [Nat.zero_add, draw_first _ _ _ (by simp [placesTo]; exact hj)]
  simp [placesTo, List.getD_eq_getElem?_getD, hj]

theorem zeros_draw (seed n : Nat) : ∀ j, j < n - 1 → drawAt seed (List.replicate n 0) (0 + j) = 0 := by
  intro j hj
  rw [Nat.zero_add, draw_first _ _ _ (by simp; omega)]
  have h : j < n := by omega
  simp [List.getD_eq_getElem?_getD, h]

set_option maxRecDepth 100000 in
set_option maxHeartbeats 4000000 in
theorem row_any (seed : Nat) (n : Int) (a : Option Addr) (len cap : Nat) (zs : List Int) (w : World) (hs_ : seed < 18446744073709551616) (h : IsRow .u64 w a len cap zs) (hl : len ≤ 2000) :
    Calls Try.prog 7 #[.int .u64 (seed : Int), .slice a len cap, .int .i64 n] w fun e w' => e = .returned (.bool true) ∧ Below w.heap.size w w' := by
  have hgt : ¬ (2000 : Int) < (len : Int) := by omega
  obtain ⟨N, hN1, hN2, hn1, hn2, hn3⟩ := num256 n
  have H := Lib.hid h; clear h
  have HN := Lib.hid hn2
  have hzs := zero_seen
  clear hn1 hn2 hn3
  go_enter Try.func7, Try.ntmps7
  go_wp2_with fail
  refine (awake_any _).mono ?_
  rintro e w1 ⟨rfl, hb1⟩
  go_wp2_with fail
  refine (new_row seed a len cap zs _ hs_ (H.out.below hb1) hl).mono ?_
  rintro e w2 ⟨p, rfl, h2, hg2, hp⟩
  go_wp2_with fail
  rw [HN.out]
  have bl2 := bl_none hb1 hg2
  have hpw := bl_le hb1 hp
  generalize hf : firstOf len zs = first at h2
  clear hf H hb1 hg2 hp
  refine (shuffle_any p N seed first 0 _ h2 (by omega) hN1 hN2).mono ?_
  rintro e w3 ⟨g, rfl, hown, h3, hg3⟩
  have hgw : w2.heap.size ≤ g := by rcases hown.2 with ⟨h, _⟩ | ⟨g', _, _, h, hh, _⟩ <;> simp at h; omega
  have hOnce := Once.shuf (n := N) (drawAt seed first) (N - 1) 0 (List.range N) (by omega) (once_range N)
  generalize shuf (drawAt seed first) 0 (N - 1) (List.range N) = L at hown hOnce
  have bl3 := bl_some bl2 hg3 hpw
  rw [Nat.zero_add] at h3
  have e0 : (((N - 1 : Nat) : Int) != (N : Int) - 1) = false := by simp; omega
  clear h2 hg3
  go_wp2_with fail
  refine (h3.used).mono ?_
  rintro e w4 ⟨rfl, rfl⟩
  go_wp2
  have hs0 := Seen.new w3
  have bl4 := bl_alloc bl3 (.cells falses 49)
  have hown4 := hown.alloc (.cells falses 49)
  have hS := bl3.size
  have hgS : g < w3.heap.size := by rcases hown.2 with ⟨h, _⟩ | ⟨g', _, _, h, _, hh, _⟩ <;> simp at h; rw [h.1]; exact lt_of_block hh
  generalize hw4 : w3.alloc (.cells falses 49) = w4 at hs0 bl4 hown4 ⊢
  generalize hSb : w3.heap.size = Sb at hs0 hS hgS ⊢
  clear hw4 hSb h3 bl3 hown e0 hzs HN
  go_loopw [10] (fun i wr => ∃ k : Nat, k ≤ N ∧ i = .int .i64 k ∧ wr.ownsRow w2.heap.size 3 1 (.slice (some ⟨g, 0, none⟩) N N) N (i64s L) ∧ Seen wr Sb (fun j => decide (∃ i, i < k ∧ L.getD i 0 = j)) ∧ Below w.heap.size w wr) (fun i _ => N - (intOf i).toNat)
  case atStart => exact ⟨0, by omega, rfl, hown4, by simpa using hs0, bl4⟩
  case round =>
    obtain ⟨k, hk, rfl, ho, hs, hbl⟩ := hrel
    by_cases hlt : k < N
    · obtain ⟨x, hx⟩ : ∃ x, x = L.getD k 0 := ⟨_, rfl⟩
      have hxN : x < N := by rw [hx]; exact hOnce.2.1 k hlt
      have hcx : wr.cell? ⟨g, k, none⟩ = some (.int .i64 (x : Int)) := by
        rw [ho.cellAt k (by omega), hx]
        have := hOnce.1
        simp [i64s, List.getElem?_map, List.getElem?_eq_getElem (show k < L.length by omega)]
      have hfx : decide (∃ i, i < k ∧ L.getD i 0 = x) = false := by
        rw [decide_eq_false_iff_not]
        rintro ⟨i, hi, he⟩
        rw [hx] at he
        have := hOnce.2.2 i k (by omega) hlt he
        omega
      obtain ⟨hsx, hfr⟩ := hs.cell x (by omega)
      rw [hfx] at hsx
      have hst := hs.store x (by omega)
      have hfun : (fun j => if j = x then true else decide (∃ i, i < k ∧ L.getD i 0 = j)) = fun j => decide (∃ i, i < k + 1 ∧ L.getD i 0 = j) := by
        funext j
        by_cases e : j = x
        · rw [if_pos e, eq_comm, decide_eq_true_eq]; exact ⟨k, by omega, by rw [e, hx]⟩
        · rw [if_neg e, decide_eq_decide]
          constructor
          · rintro ⟨i, hi, he⟩; exact ⟨i, by omega, he⟩
          · rintro ⟨i, hi, he⟩
            refine ⟨i, ?_, he⟩
            rcases Nat.lt_or_eq_of_le (Nat.le_of_lt_succ hi) with h | h
            · exact h
            · subst h; exact absurd (by rw [hx, he]) e
      rw [hfun] at hst
      have HST := Lib.hid hst
      have HO := Lib.hid ho
      have HX := Lib.hid hx
      clear hst ho hx hs hfun hfx
      have b0 : ¬ (x : Int) < 0 := by omega
      have b1 : ¬ (N : Int) ≤ (x : Int) := by omega
      have b2 : (x : Int) < 256 := by omega
      have b3 : (k : Int) < (N : Int) := by omega
      go_wp2
      go_roundw
      case rel => exact ⟨k + 1, by omega, by go_num, ownsRow_setCell_other HO.out (by simp [Value.ownBlock]; omega) _, HST.out, bl_some hbl (grown_set _ _ _ _) hS⟩
      case measure => simp [intOf]; omega
    · obtain rfl : k = N := by omega
      clear hlt hs ho hs0 hown4 bl4 hOnce hgS hS
      obtain ⟨i0, hi, hz0, hz1, hz2⟩ := info_parts info_u64
      obtain ⟨wo, rfl⟩ : ∃ wo : World, wo = wr := ⟨_, rfl⟩
      have hB := hbl.size
      go_wp2
      go_loopw [11, 12] (fun v i w' => ∃ m : Nat, m ≤ k - 1 ∧ i = .int .i64 m ∧ w'.ownsRow wo.heap.size 22 1 v (k - 1 - m) (u64s (placesTo k m)) ∧ Below wo.heap.size wo w') (fun _ i _ => (intOf i).toNat)
      case atStart => exact ⟨k - 1, Nat.le_refl _, by go_num, by simpa [u64s, placesTo] using World.ownsRow_nil _ _ _ _, Below.refl _ _⟩
      case round =>
        obtain ⟨m, hm, rfl, hov, hbm⟩ := hrel
        by_cases hm0 : m = 0
        · subst hm0
          have hP : ∀ j, j < k - 1 → drawAt seed (placesTo k 0) (0 + j) = k - 1 - j := places_draw seed k
          have hst := shuf_stays (drawAt seed (placesTo k 0)) (k - 1) 0 (List.range k) (by simp; omega) hP
          have HST := Lib.hid hst
          clear hst hP
          have hlp := placesTo_len k 0 (by omega)
          have hbw := hbl.trans (hbm.mono hB)
          have hBw := hbw.size
          go_wp2_with fail
          refine (new_own seed (placesTo k 0) wo.heap.size _ _ _ hs_ hov (by omega)).mono ?_
          rintro e w5 ⟨q, rfl, h5, hg5, hq⟩
          have b5 := bl_none hbw hg5
          have hqw := bl_le hbw hq
          go_wp2_with fail
          refine (shuffle_val q k (k : Int) seed (placesTo k 0) 0 (List.range k) _ h5 (by omega) hN1 hN2 rfl HST.out).mono ?_
          rintro e w6 ⟨g1, rfl, ho1, _, hg6⟩
          have b6 := bl_some b5 hg6 hqw
          have hb8 : 8 * k ≤ 281474976710656 := by omega
          have hml : k ≤ maxLen := by unfold maxLen; omega
          clear h5 hg5 hg6 hq hov hbm
          go_wp2_with (refine wpList_make_full _ rfl _ _ 23 rfl w6.heap.size 22 i0 (.int .u64 0) 1 Try.underlying23 hi hz0 hz1 .i64 .i64 _ _ k rfl rfl rfl rfl (by rw [hz2]; exact hb8) hml (Nat.le_refl _) ?_)
          intro w7 hmk hg7
          have hzo : w7.ownsRow w6.heap.size 22 1 (.slice (some ⟨w6.heap.size, 0, none⟩) k k) k (u64s (List.replicate k 0)) := by
            have e : (madeCells #[Value.int .u64 0] k).toList = u64s (List.replicate k 0) := by rw [toList_madeCells_one]; simp [u64s]
            rw [← e]; exact hmk
          have b7 := bl_none b6 hg7
          have ho7 : w7.ownsRow w5.heap.size 3 1 (.slice (some ⟨g1, 0, none⟩) k k) k (i64s (List.range k)) := ho1.kept hg7 (.inr (by simp [Value.ownBlock]))
          clear hmk hg7 ho1
          go_wp2_with fail
          refine (new_own seed (List.replicate k 0) w6.heap.size k _ _ hs_ hzo (by omega)).mono ?_
          rintro e w8 ⟨r, rfl, h8, hg8, hr⟩
          have b8 := bl_none b7 hg8
          have hrw := bl_le b7 hr
          have ho8 : w8.ownsRow w5.heap.size 3 1 (.slice (some ⟨g1, 0, none⟩) k k) k (i64s (List.range k)) := ho7.kept hg8 (.inr (by simp [Value.ownBlock]))
          have hg1l : g1 < w8.heap.size := by have := (ho8.lt g1 rfl).2; exact this
          have hg1r : g1 ≠ r := by have := (ho7.lt g1 rfl).2; omega
          go_wp2_with fail
          refine (shuffle_val r k (k : Int) seed (List.replicate k 0) 0 _ _ h8 (by omega) hN1 hN2 rfl rfl).mono ?_
          rintro e w9 ⟨g2, rfl, ho2, _, hg9⟩
          have b9 := bl_some b8 hg9 hrw
          have hrd := shuf_round (drawAt seed (List.replicate k 0)) k hN1 (k - 1) 0 (List.range k) (by omega) (by simp) (zeros_draw seed k) (by rw [if_pos rfl]; simp [List.getD_eq_getElem?_getD, List.getElem?_range hN1]) (fun j j1 j2 => by simp [List.getD_eq_getElem?_getD, show j < k by omega]) (fun j j1 j2 => by omega)
          generalize shuf (drawAt seed (List.replicate k 0)) 0 (k - 1) (List.range k) = R at ho2 hrd
          obtain ⟨hR1, hR2⟩ := hrd
          have ho9 : w9.ownsRow w5.heap.size 3 1 (.slice (some ⟨g1, 0, none⟩) k k) k (i64s (List.range k)) := ho8.kept hg9 (.inr (by simp [Value.ownBlock]; exact hg1r))
          have c1 : ∀ j, j < k → w9.cell? ⟨g1, j, none⟩ = some (.int .i64 (j : Int)) := fun j hj => by
            rw [ho9.cellAt j (by omega)]; simp [i64s, List.getElem?_map, List.getElem?_range hj]
          have c2 : ∀ j, j < k → w9.cell? ⟨g2, j, none⟩ = some (.int .i64 (((j + 1) % k : Nat) : Int)) := fun j hj => by
            have := hR2 j hj
            rw [ho2.cellAt j (by omega)]
            simp only [i64s, List.getElem?_map, List.getElem?_eq_getElem (show j < R.length by omega), Option.map_some]
            rw [← this]; simp [List.getD_eq_getElem?_getD, List.getElem?_eq_getElem (show j < R.length by omega)]
          have C1 := Lib.hid c1
          have C2 := Lib.hid c2
          clear c1 c2 ho9 ho8 ho7 hzo h8 hg8 hg9 hr ho2 hR1 hR2 b5 b6 b7 b8 HST
          go_wp2
          go_loopw [15] (fun i w' => ∃ (j m : Nat), j ≤ k ∧ i = .int .i64 j ∧ w9.drewN m = w') (fun i _ => k - (intOf i).toNat)
          case atStart => exact ⟨0, 0, by omega, rfl, rfl⟩
          case round =>
            obtain ⟨j, m, hj, rfl, rfl⟩ := hrel
            by_cases hjk : j < k
            · have d1 := C1.out j hjk
              have d2 := C2.out j hjk
              obtain ⟨y, hy⟩ : ∃ y, y = (j + 1) % k := ⟨_, rfl⟩
              rw [← hy] at d2
              have hq1 : ((y : Int) != ((j : Int) + 1).tmod (k : Int)) = false := by rw [Int.tmod_eq_emod_of_nonneg (by omega), hy]; simp
              have hq2 : ((y : Int) != ((j : Int) + 1) % (k : Int)) = false := by rw [hy]; simp
              have hw : IntKind.i64.wrap ((j : Int) + 1) = (j : Int) + 1 := IntWalk.i64_in _ ⟨by omega, by omega⟩
              have hw2 : IntKind.i64.wrap (((j : Int) + 1).tmod (k : Int)) = ((j : Int) + 1).tmod (k : Int) := by
                rw [Int.tmod_eq_emod_of_nonneg (by omega)]; have z1 := Int.emod_lt_of_pos ((j : Int) + 1) (show (0 : Int) < k by omega); have z2 := Int.emod_nonneg ((j : Int) + 1) (show (k : Int) ≠ 0 by omega); exact IntWalk.i64_in _ ⟨by omega, by omega⟩
              have hk0 : ¬ (k : Int) = 0 := by omega
              have hk1 : ¬ k = 0 := by omega
              have hb1 : (j : Int) < (k : Int) := by omega
              have HY := Lib.hid hy
              clear hy
              go_wp2_with fail
              go_quiet (fail)
              go_wp2
              go_roundw
              case rel => exact ⟨j + 1, m + nq, by omega, by go_num, rfl⟩
              case measure => simp [intOf]; omega
            · go_wp2
              go_ret
              exact ⟨rfl, bl_drewN b9 m⟩
        · have hpos : (0 : Int) < (m : Int) := by omega
          have hpl : m < 256 := by omega
          have HPL := Lib.hid (placesTo_step k m (by omega) (by omega))
          go_wp2_with (at_builtin; refine wpList_append_own _ rfl _ _ 23 rfl wo.heap.size 22 i0 (.int .u64 0) 1 8 Try.underlying23 hi hz0 hz1 hz2 rfl (by decide) _ _ _ rfl (hov.alloc _) ⟨wr.heap.size, 0, none⟩ 1 1 [.int .u64 (m : Int)] rfl rfl ?c1 ?c2 ?c3 ?c4 ?c5 ?_)
          case c1 =>
            intro j u hj
            match j, hj with
            | 0, hj => simp at hj; subst hj; simp [Addr.add]
          case c2 => intro u hu; simp at hu; subst hu; rfl
          case c3 => unfold maxLen; omega
          case c4 => omega
          case c5 => have := hbm.size; simp; omega
          intro v' w1' hown' hgrow _
          have hnew : w1'.ownsRow wo.heap.size 22 1 v' (k - 1 - (m - 1)) (u64s (placesTo k (m - 1))) := by
            rw [show k - 1 - (m - 1) = k - 1 - m + 1 from by omega, ← HPL.out]
            simpa [u64s] using hown'
          have hbn : Below wo.heap.size wo w1' := (bl_alloc hbm (.cells #[.int .u64 (m : Int)] 22)).grown hgrow (by have := hbm.size; simp; omega) (fun j hj => by have := (hov.lt j hj).1; omega)
          clear hown' hgrow hov hbm
          go_wp2
          go_roundw
          case rel => exact ⟨m - 1, by omega, by go_num, hnew, hbn⟩
          case measure => simp [intOf]; omega
end Go.Proofs.Ythjoadiagnngiaa
