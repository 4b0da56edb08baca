import Derived.Test.YthjoadiagnngiaaShuf
namespace Go.Proofs.Ythjoadiagnngiaa
open Go.RowKit
set_option linter.unusedVariables false

/-- the cells of a list of ints behind a slice value -/
def IntsAt (w : World) (v : Value) (l : List Nat) : Prop :=
  (v = .slice none 0 0 ∧ l = []) ∨ ∃ b o c, v = .slice (some ⟨b, o, none⟩) l.length c ∧ ∀ j, j < l.length → w.cell? ⟨b, o + j, none⟩ = some (.int .i64 ((l.getD j 0 : Nat) : Int))

theorem IntsAt.of_own {w : World} {base g n c : Nat} {l : List Nat} (h : w.ownsRow base 3 1 (.slice (some ⟨g, 0, none⟩) n c) n (i64s l)) (hn : l.length = n) : IntsAt w (.slice (some ⟨g, 0, none⟩) n c) l := by
  refine .inr ⟨g, 0, c, by rw [hn], fun j hj => ?_⟩
  rw [Nat.zero_add, h.cellAt j (by omega)]
  simp [i64s, List.getElem?_map, List.getElem?_eq_getElem hj]

set_option maxHeartbeats 1000000 in
theorem ints_len (a a' : Option Addr) (n c n' c' : Nat) (w : World) (h : n ≠ n') :
    Calls Try.prog 19 #[.slice a n c, .slice a' n' c'] w fun e w' => e = .returned (.bool false) ∧ w = w' := by
  have hne : ((n : Int) != (n' : Int)) = true := by rw [bne_iff_ne]; omega
  go_enter Try.func19, Try.ntmps19
  go_wp2
  go_ret
  exact ⟨rfl, rfl⟩

set_option maxHeartbeats 1000000 in
theorem ints_zero (a a' : Option Addr) (c c' : Nat) (w : World) :
    Calls Try.prog 19 #[.slice a 0 c, .slice a' 0 c'] w fun e w' => e = .returned (.bool true) ∧ w = w' := by
  go_enter Try.func19, Try.ntmps19
  go_wp2
  refine wp_loop_rounds 1 ?_
  rw [rounds_succ]
  go_wp2
  go_ret
  exact ⟨rfl, rfl⟩

set_option maxHeartbeats 1000000 in
theorem ints_some (b o c b' o' c' : Nat) (l l' : List Nat) (n : Nat) (hn : l.length = n) (hn' : l'.length = n) (w : World) (hm : n < 9223372036854775807)
    (h : ∀ j, j < n → w.cell? ⟨b, o + j, none⟩ = some (.int .i64 ((l.getD j 0 : Nat) : Int))) (h' : ∀ j, j < n → w.cell? ⟨b', o' + j, none⟩ = some (.int .i64 ((l'.getD j 0 : Nat) : Int))) (r : Bool) (hr : r = decide (l = l')) :
    Calls Try.prog 19 #[.slice (some ⟨b, o, none⟩) n c, .slice (some ⟨b', o', none⟩) n c'] w fun e w' => e = .returned (.bool r) ∧ ∃ m, w.drewN m = w' := by
  have H := Lib.hid h; clear h
  have H' := Lib.hid h'; clear h'
  have HR := Lib.hid hr; clear hr
  have HN := Lib.hid hn; clear hn
  have HN' := Lib.hid hn'; clear hn'
  go_enter Try.func19, Try.ntmps19
  go_wp2
  go_loopw [5] (fun i wr => ∃ k m : Nat, k ≤ n ∧ i = .int .i64 k ∧ w.drewN m = wr ∧ l.take k = l'.take k) (fun i _ => n - (intOf i).toNat)
  case atStart => exact ⟨0, 0, Nat.zero_le _, rfl, rfl, rfl⟩
  case round =>
    obtain ⟨k, m, hk, rfl, rfl, hpre⟩ := hrel
    have HP := Lib.hid hpre; clear hpre
    by_cases hlt : k < n
    · have c1 := H.out k hlt
      have c2 := H'.out k hlt
      obtain ⟨x, hx⟩ : ∃ x, x = l.getD k 0 := ⟨_, rfl⟩
      obtain ⟨y, hy⟩ : ∃ y, y = l'.getD k 0 := ⟨_, rfl⟩
      rw [← hx] at c1
      rw [← hy] at c2
      have HX := Lib.hid hx; clear hx
      have HY := Lib.hid hy; clear hy
      have b1 : (k : Int) < (n : Int) := by omega
      have hN := HN.out
      have hN' := HN'.out
      have ht1 : l.take (k + 1) = l.take k ++ [x] := by rw [HX.out, List.take_succ_eq_append_getElem (by omega)]; simp [List.getElem?_eq_getElem (show k < l.length by omega)]
      have ht2 : l'.take (k + 1) = l'.take k ++ [y] := by rw [HY.out, List.take_succ_eq_append_getElem (by omega)]; simp [List.getElem?_eq_getElem (show k < l'.length by omega)]
      by_cases hxy : x = y
      · have hq : ((x : Int) != (y : Int)) = false := by simp [hxy]
        have HT : Hid (l.take (k + 1) = l'.take (k + 1)) := by unfold Hid; rw [ht1, ht2, HP.out, hxy]
        clear ht1 ht2 hxy hN hN'
        go_wp2_with fail
        go_quiet (fail)
        go_wp2
        go_roundw
        case rel => exact ⟨k + 1, m + nq, by omega, by go_num, rfl, HT.out⟩
        case measure => simp [intOf]; omega
      · have hq : ((x : Int) != (y : Int)) = true := by rw [bne_iff_ne]; omega
        have HT : Hid (r = false) := by
          unfold Hid
          rw [HR.out, decide_eq_false_iff_not]
          rintro rfl
          rw [ht1] at ht2
          exact hxy (by simpa using ht2)
        clear ht1 ht2 hxy hN hN'
        go_wp2_with fail
        go_quiet (fail)
        go_wp2
        go_ret
        exact ⟨by rw [HT.out]; rfl, m + nq, (World.drewN_drewN _ _ _).symm⟩
    · obtain rfl : k = n := by omega
      have HT : Hid (r = true) := by
        have e := HP.out
        rw [List.take_of_length_le (by rw [HN.out]; exact Nat.le_refl _), List.take_of_length_le (by rw [HN'.out]; exact Nat.le_refl _)] at e
        unfold Hid
        rw [HR.out, e]
        simp
      clear hlt
      go_wp2
      go_ret
      exact ⟨by rw [HT.out]; rfl, m, rfl⟩

theorem ints_any (v v' : Value) (l l' : List Nat) (w : World) (h : IntsAt w v l) (h' : IntsAt w v' l') (hm : l.length < 9223372036854775807) :
    Calls Try.prog 19 #[v, v'] w fun e w' => e = .returned (.bool (decide (l = l'))) ∧ ∃ m, w.drewN m = w' := by
  have q : ∀ (b : Bool) (x : Ending) (y : World), x = .returned (.bool b) ∧ w = y → b = decide (l = l') → x = .returned (.bool (decide (l = l'))) ∧ ∃ m, w.drewN m = y := by
    rintro b x y ⟨rfl, rfl⟩ rfl
    exact ⟨rfl, 0, rfl⟩
  rcases h with ⟨rfl, rfl⟩ | ⟨b, o, c, rfl, hc⟩ <;> rcases h' with ⟨rfl, rfl⟩ | ⟨b', o', c', rfl, hc'⟩
  · exact (ints_zero _ _ _ _ w).mono fun x y hh => q true x y hh (by simp)
  · by_cases hz : l' = []
    · subst hz; exact (ints_zero _ _ _ _ w).mono fun x y hh => q true x y hh (by simp)
    · have : 0 ≠ l'.length := fun e => hz (List.eq_nil_of_length_eq_zero e.symm)
      exact (ints_len _ _ _ _ _ _ w this).mono fun x y hh => q false x y hh (by simp; exact hz)
  · by_cases hz : l = []
    · subst hz; exact (ints_zero _ _ _ _ w).mono fun x y hh => q true x y hh (by simp)
    · have : l.length ≠ 0 := fun e => hz (List.eq_nil_of_length_eq_zero e)
      exact (ints_len _ _ _ _ _ _ w this).mono fun x y hh => q false x y hh (by simp; exact hz)
  · by_cases hz : l.length = l'.length
    · rw [← hz]
      exact (ints_some b o c b' o' c' l l' l.length rfl hz.symm w hm hc (by rw [hz]; exact hc') _ rfl)
    · exact (ints_len _ _ _ _ _ _ w hz).mono fun x y hh => q false x y hh (by simp; rintro rfl; exact hz rfl)
end Go.Proofs.Ythjoadiagnngiaa
