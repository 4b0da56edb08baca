import Derived.Test.YtdhhocmdolnfiaaDoorNum
namespace Go.Proofs.YtdhhocmdolnfiaaDoor
open Go.RowKit
set_option linter.unusedVariables false

/-- n bytes are refused, by a number -/
def Refused (w : World) (c : Value) (n x : Int) : Prop := Calls Tryd.prog 47 #[c, .int .i64 n] w fun e w' => e = .returned (.tuple #[.string ByteArray.empty, fail x]) ∧ ∃ m, w.drewN m = w'
theorem refused_nil (n : Int) (w : World) : Refused w (.pointer none) n 2 := (next_nil n w).mono fun _ _ ⟨a, b⟩ => ⟨a, 0, b⟩
theorem refused_neg (p : Nat) (n : Int) (w : World) (hn : n < 0) : Refused w (.pointer (some ⟨p, 0, none⟩)) n 1 := (next_neg p n w hn).mono fun _ _ ⟨a, b⟩ => ⟨a, 0, b⟩
theorem refused_short {p : Nat} {s : ByteArray} {a : Nat} {w : World} (h : Cur w p s a) (n : Int) (hn : 0 ≤ n) (hs : (s.size : Int) - (a : Int) < n) : Refused w (.pointer (some ⟨p, 0, none⟩)) n 4 := next_short p s a n w h hn hs

theorem bad_number {w : World} {c : Value} {n x : Int} (hg : HG w) (h : Refused w c n x) :
    Calls Tryd.prog 46 #[c, .int .i64 n] w fun e w' => e = .returned (.tuple #[.int .u32 0, .int .i64 x]) ∧ w.grownBy w' none := number_bad c n x w hg h

set_option maxHeartbeats 400000 in
theorem byte_bad {w : World} {c : Value} {x : Int} (hg : HG w) (h : Refused w c 1 x) :
    Calls Tryd.prog 34 #[c] w fun e w' => e = .returned (.tuple #[.int .u8 0, .int .i64 x]) ∧ w.grownBy w' none := by
  have H := Lib.hid (bad_number hg h)
  clear h hg
  go_enter Tryd.func34, Tryd.ntmps34
  go_wp2_with fail
  refine H.out.mono ?_
  rintro e w1 ⟨rfl, hg1⟩
  go_wp2
  go_ret2
  exact ⟨rfl, hg1⟩
set_option maxHeartbeats 400000 in
theorem two_bad {w : World} {c : Value} {x : Int} (hg : HG w) (h : Refused w c 2 x) :
    Calls Tryd.prog 35 #[c] w fun e w' => e = .returned (.tuple #[.int .u16 0, .int .i64 x]) ∧ w.grownBy w' none := by
  have H := Lib.hid (bad_number hg h)
  clear h hg
  go_enter Tryd.func35, Tryd.ntmps35
  go_wp2_with fail
  refine H.out.mono ?_
  rintro e w1 ⟨rfl, hg1⟩
  go_wp2
  go_ret2
  exact ⟨rfl, hg1⟩
set_option maxHeartbeats 400000 in
theorem four_bad {w : World} {c : Value} {x : Int} (hg : HG w) (h : Refused w c 4 x) :
    Calls Tryd.prog 36 #[c] w fun e w' => e = .returned (.tuple #[.int .u32 0, .int .i64 x]) ∧ w.grownBy w' none := by
  have H := Lib.hid (bad_number hg h)
  clear h hg
  go_enter Tryd.func36, Tryd.ntmps36
  go_wp2_with fail
  refine H.out.mono ?_
  rintro e w1 ⟨rfl, hg1⟩
  go_wp2
  go_ret2
  exact ⟨rfl, hg1⟩
set_option maxHeartbeats 400000 in
theorem take_bad {w : World} {c : Value} {n x : Int} (hg : HG w) (h : Refused w c n x) :
    Calls Tryd.prog 37 #[c, .int .i64 n] w fun e w' => e = .returned (.tuple #[.string ByteArray.empty, .int .i64 x]) ∧ w.grownBy w' none := by
  have H := Lib.hid h
  clear h
  go_enter Tryd.func37, Tryd.ntmps37
  go_wp2_with fail
  refine (show Calls _ _ _ _ _ from H.out).mono ?_
  rintro e w1 ⟨rfl, m, rfl⟩
  go_wp2_with fail
  refine (errno_fail x _ (hg.grown (grown_drewN w m none) (by simp))).mono ?_
  rintro e w2 ⟨rfl, hg2⟩
  go_wp2
  go_ret2
  exact ⟨rfl, grown_trans (grown_drewN _ _ _) hg2⟩

theorem val_lt_pow (s : ByteArray) (a n : Nat) (hs : a + n ≤ s.size) : val (part s a n) < 256 ^ n := by
  have := val_lt (part s a n)
  have hl : (part s a n).length = n := by simp [part]; omega
  rwa [hl] at this

set_option maxHeartbeats 400000 in
theorem byte_ok {w : World} {p : Nat} {s : ByteArray} {a : Nat} (h : Cur w p s a) (hs : a + 1 ≤ s.size) :
    Calls Tryd.prog 34 #[.pointer (some ⟨p, 0, none⟩)] w fun e w' => e = .returned (.tuple #[.int .u8 (val (part s a 1) : Nat), .int .i64 0]) ∧ Cur w' p s (a + 1) ∧ w.grownBy w' (some p) := by
  have H := Lib.hid (number_ok p s a 1 w h hs (by omega))
  have hv := val_lt_pow s a 1 hs
  generalize val (part s a 1) = V at hv H ⊢
  clear h
  go_enter Tryd.func34, Tryd.ntmps34
  go_wp2_with fail
  refine H.out.mono ?_
  rintro e w1 ⟨rfl, h1, hg1⟩
  have hV : V < 256 := by simpa using hv
  clear hv
  go_wp2
  go_ret2
  refine ⟨?_, h1, hg1⟩
  show Ending.returned (.tuple #[.int .u8 _, .int .i64 _]) = _
  have e : IntKind.u8.wrap (V : Int) = (V : Int) := by rw [IntKind.wrap_u8]; omega
  first | rfl | (rw [e]) | (simp; omega)
set_option maxHeartbeats 400000 in
theorem two_ok {w : World} {p : Nat} {s : ByteArray} {a : Nat} (h : Cur w p s a) (hs : a + 2 ≤ s.size) :
    Calls Tryd.prog 35 #[.pointer (some ⟨p, 0, none⟩)] w fun e w' => e = .returned (.tuple #[.int .u16 (val (part s a 2) : Nat), .int .i64 0]) ∧ Cur w' p s (a + 2) ∧ w.grownBy w' (some p) := by
  have H := Lib.hid (number_ok p s a 2 w h hs (by omega))
  have hv := val_lt_pow s a 2 hs
  generalize val (part s a 2) = V at hv H ⊢
  clear h
  go_enter Tryd.func35, Tryd.ntmps35
  go_wp2_with fail
  refine H.out.mono ?_
  rintro e w1 ⟨rfl, h1, hg1⟩
  have hV : V < 65536 := by simpa using hv
  clear hv
  go_wp2
  go_ret2
  refine ⟨?_, h1, hg1⟩
  show Ending.returned (.tuple #[.int .u16 _, .int .i64 _]) = _
  have e : IntKind.u16.wrap (V : Int) = (V : Int) := by rw [IntKind.wrap_u16]; omega
  first | rfl | (rw [e]) | (simp; omega)
set_option maxHeartbeats 400000 in
theorem four_ok {w : World} {p : Nat} {s : ByteArray} {a : Nat} (h : Cur w p s a) (hs : a + 4 ≤ s.size) :
    Calls Tryd.prog 36 #[.pointer (some ⟨p, 0, none⟩)] w fun e w' => e = .returned (.tuple #[.int .u32 (val (part s a 4) : Nat), .int .i64 0]) ∧ Cur w' p s (a + 4) ∧ w.grownBy w' (some p) := by
  have H := Lib.hid (number_ok p s a 4 w h hs (by omega))
  generalize val (part s a 4) = V at H ⊢
  clear h
  go_enter Tryd.func36, Tryd.ntmps36
  go_wp2_with fail
  refine H.out.mono ?_
  rintro e w1 ⟨rfl, h1, hg1⟩
  go_wp2
  go_ret2
  exact ⟨rfl, h1, hg1⟩
set_option maxHeartbeats 400000 in
theorem take_ok {w : World} {p : Nat} {s : ByteArray} {a : Nat} (n : Nat) (h : Cur w p s a) (hs : a + n ≤ s.size) :
    Calls Tryd.prog 37 #[.pointer (some ⟨p, 0, none⟩), .int .i64 (n : Int)] w fun e w' => e = .returned (.tuple #[.string (s.extract a (a + n)), .int .i64 0]) ∧ Cur w' p s (a + n) ∧ w.grownBy w' (some p) := by
  have H := Lib.hid (next_ok p s a n w h hs)
  clear h
  go_enter Tryd.func37, Tryd.ntmps37
  go_wp2_with fail
  refine H.out.mono ?_
  rintro e w1 ⟨rfl, h1, hg1⟩
  go_wp2_with fail
  refine (errno_nil _).mono ?_
  rintro e w2 ⟨rfl, hg2⟩
  go_wp2
  go_ret2
  exact ⟨rfl, h1.grown hg2, grown_none hg1 hg2⟩

set_option maxHeartbeats 400000 in
theorem at_ok {w : World} {p : Nat} {s : ByteArray} {a : Nat} (h : Cur w p s a) :
    Calls Tryd.prog 22 #[.pointer (some ⟨p, 0, none⟩)] w fun e w' => e = .returned (.int .i64 (a : Int)) ∧ w = w' := by
  obtain ⟨c0, c1, f1⟩ := h.cells
  clear h
  go_enter Tryd.func22, Tryd.ntmps22
  go_wp2
  go_ret
  exact ⟨rfl, rfl⟩
set_option maxHeartbeats 400000 in
theorem left_ok {w : World} {p : Nat} {s : ByteArray} {a : Nat} (h : Cur w p s a) :
    Calls Tryd.prog 23 #[.pointer (some ⟨p, 0, none⟩)] w fun e w' => e = .returned (.int .i64 ((s.size : Int) - (a : Int))) ∧ ∃ m, w.drewN m = w' := by
  obtain ⟨c0, c1, f1⟩ := h.cells
  obtain ⟨_, h2, h3, _⟩ := h
  go_enter Tryd.func23, Tryd.ntmps23
  go_wp2
  go_quiet (fail)
  go_wp2
  go_ret
  exact ⟨rfl, nq, rfl⟩
set_option maxHeartbeats 400000 in
theorem seek_bad {w : World} {p : Nat} {s : ByteArray} {a : Nat} (n : Int) (h : Cur w p s a) (hn : n < 0 ∨ (s.size : Int) < n) :
    Calls Tryd.prog 38 #[.pointer (some ⟨p, 0, none⟩), .int .i64 n] w fun e w' => e = .returned (.int .i64 1) ∧ w = w' := by
  obtain ⟨c0, c1, f1⟩ := h.cells
  clear h
  by_cases h0 : n < 0
  · go_enter Tryd.func38, Tryd.ntmps38
    go_wp2
    go_ret
    exact ⟨rfl, rfl⟩
  · have h1 : (s.size : Int) < n := by omega
    go_enter Tryd.func38, Tryd.ntmps38
    go_wp2
    go_ret
    exact ⟨rfl, rfl⟩
set_option maxHeartbeats 400000 in
theorem seek_ok {w : World} {p : Nat} {s : ByteArray} {a : Nat} (n : Nat) (h : Cur w p s a) (hn : n ≤ s.size) :
    Calls Tryd.prog 38 #[.pointer (some ⟨p, 0, none⟩), .int .i64 (n : Int)] w fun e w' => e = .returned (.int .i64 0) ∧ Cur w' p s n ∧ w.grownBy w' (some p) := by
  have hs := Lib.hid (h.set n hn)
  obtain ⟨c0, c1, f1⟩ := h.cells
  clear h
  have h0 : ¬ (n : Int) < 0 := by omega
  have h1 : ¬ (s.size : Int) < (n : Int) := by omega
  go_enter Tryd.func38, Tryd.ntmps38
  go_wp2
  go_ret
  exact ⟨rfl, hs.out, grown_set _ _ _ _⟩
end Go.Proofs.YtdhhocmdolnfiaaDoor
