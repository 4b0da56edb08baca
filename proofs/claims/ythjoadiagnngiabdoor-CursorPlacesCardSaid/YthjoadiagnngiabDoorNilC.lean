import Derived.Test.YthjoadiagnngiabDoorPut
import Derived.Laws.BytesArg
import Derived.Lib.SlBytesConst
namespace Go.Proofs.YthjoadiagnngiabDoor
open Go.RowKit
set_option linter.unusedVariables false

theorem at_nil (w : World) : Calls Tryd.prog 12 #[.pointer none] w fun e w' => e = .returned (.int .i64 0) ∧ w = w' := by
  go_enter Tryd.func12, Tryd.ntmps12
  go_wp2
  go_ret
  exact ⟨rfl, rfl⟩
theorem left_nil (w : World) : Calls Tryd.prog 14 #[.pointer none] w fun e w' => e = .returned (.int .i64 0) ∧ w = w' := by
  go_enter Tryd.func14, Tryd.ntmps14
  go_wp2
  go_ret
  exact ⟨rfl, rfl⟩
theorem seek_nil (n : Int) (w : World) : Calls Tryd.prog 15 #[.pointer none, .int .i64 n] w fun e w' => e = .returned (.int .i64 2) ∧ w = w' := by
  go_enter Tryd.func15, Tryd.ntmps15
  go_wp2
  go_ret
  exact ⟨rfl, rfl⟩

/-- bytes as a string -/
def str (l : List UInt8) : ByteArray := ⟨l.toArray⟩
theorem str_size (l : List UInt8) : (str l).size = l.length := by simp [str, ByteArray.size]
theorem str_data (l : List UInt8) : (str l).data.toList = l := by simp [str]
theorem str_append (l m : List UInt8) : str l ++ str m = str (l ++ m) := by
  apply ByteArray.ext
  simp [str, ByteArray.data_append]

theorem conv_bytes (l : List UInt8) (v : Value) (w : World) (h : Bytes w v l) : ((convert 35 9 v).run Tryd.prog w) = .ok (.string (str l)) w := by
  obtain ⟨ao, c, rfl, h1, h2⟩ := h
  rcases ao with _ | ad
  · obtain ⟨hl, rfl⟩ := h1 rfl
    have : l = [] := List.eq_nil_of_length_eq_zero hl
    subst this
    rw [run_convert_bytes_nil w 35 5 Tryd.underlying35 Tryd.underlying5 _ _ 9 Tryd.underlying9]
    rfl
  · have hl : (loadCells ad l.length).run Tryd.prog w = .ok ((l.map fun b => (b.toNat : Int)).map (Value.int .u8)).toArray w := by
      have := run_loadCells_list (P := Tryd.prog) w ad (u8s l) (fun j v hj => h2 ad rfl j v hj)
      simpa [u8s, Function.comp_def] using this
    rw [run_convert_bytes_string w 35 9 5 _ l.length c Tryd.underlying35 Tryd.underlying5 Tryd.underlying9, run_bytesToString w _ l.length c (l.map fun b => (b.toNat : Int)) hl, foldl_push_bytes]
    simp [str, ByteArray.empty, ByteArray.emptyWithCapacity, Function.comp_def]
    rfl

theorem byte_val {w : World} {p : Nat} {s : ByteArray} {a : Nat} (b : Nat) (X : Int) (h : Cur w p s a) (hs : a + 1 ≤ s.size) (hb : a + 1 = b) (hX : (val (part s a 1) : Int) = X) :
    Calls Tryd.prog 28 #[.pointer (some ⟨p, 0, none⟩)] w fun e w' => e = .returned (.tuple #[.int .u8 X, .int .i64 0]) ∧ Cur w' p s b ∧ w.grownBy w' (some p) := by
  subst hb hX; exact byte_ok h hs
theorem two_val {w : World} {p : Nat} {s : ByteArray} {a : Nat} (b : Nat) (X : Int) (h : Cur w p s a) (hs : a + 2 ≤ s.size) (hb : a + 2 = b) (hX : (val (part s a 2) : Int) = X) :
    Calls Tryd.prog 29 #[.pointer (some ⟨p, 0, none⟩)] w fun e w' => e = .returned (.tuple #[.int .u16 X, .int .i64 0]) ∧ Cur w' p s b ∧ w.grownBy w' (some p) := by
  subst hb hX; exact two_ok h hs
theorem four_val {w : World} {p : Nat} {s : ByteArray} {a : Nat} (b : Nat) (X : Int) (h : Cur w p s a) (hs : a + 4 ≤ s.size) (hb : a + 4 = b) (hX : (val (part s a 4) : Int) = X) :
    Calls Tryd.prog 30 #[.pointer (some ⟨p, 0, none⟩)] w fun e w' => e = .returned (.tuple #[.int .u32 X, .int .i64 0]) ∧ Cur w' p s b ∧ w.grownBy w' (some p) := by
  subst hb hX; exact four_ok h hs
theorem take_val {w : World} {p : Nat} {s : ByteArray} {a : Nat} (n b : Nat) (N : Int) (X : ByteArray) (h : Cur w p s a) (hs : a + n ≤ s.size) (hb : a + n = b) (hN : N = (n : Int)) (hX : s.extract a (a + n) = X) :
    Calls Tryd.prog 31 #[.pointer (some ⟨p, 0, none⟩), .int .i64 N] w fun e w' => e = .returned (.tuple #[.string X, .int .i64 0]) ∧ Cur w' p s b ∧ w.grownBy w' (some p) := by
  subst hb hN hX; exact take_ok n h hs
theorem seek_val {w : World} {p : Nat} {s : ByteArray} {a : Nat} (n : Nat) (N : Int) (h : Cur w p s a) (hn : n ≤ s.size) (hN : N = (n : Int)) :
    Calls Tryd.prog 15 #[.pointer (some ⟨p, 0, none⟩), .int .i64 N] w fun e w' => e = .returned (.int .i64 0) ∧ Cur w' p s n ∧ w.grownBy w' (some p) := by
  subst hN; exact seek_ok n h hn
theorem left_val {w : World} {p : Nat} {s : ByteArray} {a : Nat} (X : Int) (h : Cur w p s a) (hX : (s.size : Int) - (a : Int) = X) :
    Calls Tryd.prog 14 #[.pointer (some ⟨p, 0, none⟩)] w fun e w' => e = .returned (.int .i64 X) ∧ ∃ m, w.drewN m = w' := by
  subst hX; exact left_ok h
theorem at_val {w : World} {p : Nat} {s : ByteArray} {a : Nat} (X : Int) (h : Cur w p s a) (hX : (a : Int) = X) :
    Calls Tryd.prog 12 #[.pointer (some ⟨p, 0, none⟩)] w fun e w' => e = .returned (.int .i64 X) ∧ w = w' := by
  subst hX; exact at_ok h
theorem bytes_nil (w : World) : Bytes w (.slice none 0 0) [] := ⟨none, 0, rfl, fun _ => ⟨rfl, rfl⟩, fun _ h => by cases h⟩

theorem conv_val {l : List UInt8} {v : Value} {w : World} (X : ByteArray) (h : Bytes w v l) (hX : str l = X) : ((convert 35 9 v).run Tryd.prog w) = .ok (.string X) w := by
  subst hX; exact conv_bytes l v w h
def PutIs (w : World) (r : List UInt8) (k : Nat) (e : Ending) (w' : World) : Prop := ∃ g, e = .returned (.slice (some ⟨g, 0, none⟩) k k) ∧ w.heap.size ≤ g ∧ w'.ownsRow w.heap.size 5 1 (.slice (some ⟨g, 0, none⟩) k k) k (u8s r) ∧ w.grownBy w' none
theorem own_base_le {w : World} {base : Nat} {t : TypeId} {size : Nat} {g l c n : Nat} {xs : List Value} (h : w.ownsRow base t size (.slice (some ⟨g, 0, none⟩) l c) n xs) : base ≤ g := by
  rcases h.2 with ⟨h2, _⟩ | ⟨g', cap, cur, hv, hg, r⟩
  · simp at h2
  · simp at hv; omega
theorem Put.is {w w' : World} {l : List UInt8} {e : Ending} (h : Put w l e w') (r : List UInt8) (k : Nat) (hr : l = r) (hk : l.length = k) : PutIs w r k e w' := by
  subst hr hk
  obtain ⟨g, h1, h2, h3⟩ := h
  exact ⟨g, h1, own_base_le h2, h2, h3⟩
theorem put1_val (r : List UInt8) (k : Nat) {v : Value} {l : List UInt8} {n : Nat} {N : Int} {w : World} (h : Bytes w v l) (hl : l.length ≤ 900000) (hn : n < 256) (hN : N = (n : Int)) (hr : l ++ [UInt8.ofNat n] = r) (hk : r.length = k) :
    Calls Tryd.prog 17 #[v, .int .u8 N] w (PutIs w r k) := by
  subst hN; exact (put1_any v l n w hl hn h).mono fun _ _ h => h.is r k hr (by rw [hr]; exact hk)
theorem put2_val (r : List UInt8) (k : Nat) {v : Value} {l : List UInt8} {n : Nat} {N : Int} {w : World} (h : Bytes w v l) (hl : l.length ≤ 900000) (hn : n < 65536) (hN : N = (n : Int)) (hr : l ++ be2 n = r) (hk : r.length = k) :
    Calls Tryd.prog 18 #[v, .int .u16 N] w (PutIs w r k) := by
  subst hN; exact (put2_any v l n w hl hn h).mono fun _ _ h => h.is r k hr (by rw [hr]; exact hk)
theorem put4_val (r : List UInt8) (k : Nat) {v : Value} {l : List UInt8} {n : Nat} {N : Int} {w : World} (h : Bytes w v l) (hl : l.length ≤ 900000) (hn : n < 4294967296) (hN : N = (n : Int)) (hr : l ++ be4 n = r) (hk : r.length = k) :
    Calls Tryd.prog 16 #[v, .int .u32 N] w (PutIs w r k) := by
  subst hN; exact (put4_any v l n w hl hn h).mono fun _ _ h => h.is r k hr (by rw [hr]; exact hk)
theorem Bytes.lit (w : World) (m : List UInt8) (cs : Array Value) (k : Nat) (h : cs.toList = u8s m) (hl : m.length ≤ 8) (hk : m.length = k) : Bytes (w.alloc (.cells cs 5)) (.slice (some ⟨w.heap.size, 0, none⟩) k k) m := by
  subst hk
  exact ⟨_, _, rfl, fun h => (by cases h), lit_bytes w m cs h hl⟩
theorem Bytes.own {w : World} {base k : Nat} {g : Nat} {l : List UInt8} (h : w.ownsRow base 5 1 (.slice (some ⟨g, 0, none⟩) k k) k (u8s l)) : Bytes w (.slice (some ⟨g, 0, none⟩) k k) l := Bytes.of_own h
theorem conv_mark (w : World) (C : Array Value) (n c : Nat) : (convert 35 35 (.slice (some ⟨w.heap.size, 0, none⟩) n c)).run Tryd.prog (w.alloc (.cells C 5)) = .ok (.slice (some ⟨w.heap.size, 0, none⟩) n c) (w.alloc (.cells C 5 (C.size, C.size + 1))) :=
  Lib.run_convert_bytes_const (P := Tryd.prog) w 35 5 C n c Tryd.underlying35 Tryd.underlying5
theorem Bytes.litm (w : World) (m : List UInt8) (cs : Array Value) (k : Nat) (fr : Nat × Nat) (h : cs.toList = u8s m) (hk : m.length = k) : Bytes (w.alloc (.cells cs 5 fr)) (.slice (some ⟨w.heap.size, 0, none⟩) k k) m := by
  subst hk
  refine ⟨_, _, rfl, (fun h => by cases h), fun ad ha t u hu => ?_⟩
  obtain rfl := Option.some.inj ha
  rw [Addr.add_lit, Nat.zero_add, cell_of_row _ w.heap.size t cs 5 fr (heap_alloc_new w _), ← hu, ← h]
  simp
end Go.Proofs.YthjoadiagnngiabDoor
