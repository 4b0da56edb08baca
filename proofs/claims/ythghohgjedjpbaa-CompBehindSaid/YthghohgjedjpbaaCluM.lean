/-
  Runs of closed calls by the kernel: conversions, append, copy.
-/
import Derived.Test.YthghohgjedjpbaaCluL
namespace Go.Proofs.Ythghohgjedjpbaa
namespace Clu
open Go.RowKit
set_option linter.unusedVariables false
variable {P : Program}

theorem u8_vals (r : Rn) : ∀ (ns : List Nat), VRs r (ns.map fun (c : Nat) => AV.i .u8 (Int.ofNat c)) (ns.map fun (c : Nat) => Value.int .u8 (c : Int))
  | [] => rfl
  | c :: ns => ⟨_, _, rfl, rfl, u8_vals r ns⟩
theorem VRs.ints {r : Rn} : ∀ {ns : List Nat} {xs : List Value}, VRs r (ns.map fun (c : Nat) => AV.i .u8 (Int.ofNat c)) xs → xs = ns.map fun (c : Nat) => Value.int .u8 (c : Int)
  | [], _, h => h
  | c :: ns, _, ⟨x, ys, h1, h2, h3⟩ => by
    subst h1
    have := VRs.ints h3
    subst this
    cases h2
    rfl
theorem push_bytes (ns : List Nat) : (ns.map fun (c : Nat) => (c : Int)).foldl (fun r n => r.push (UInt8.ofNat n.toNat)) ByteArray.empty = bytes ns := by
  rw [foldl_push_bytes]
  unfold bytes
  have h1 : ((fun (n : Int) => UInt8.ofNat n.toNat) ∘ fun (c : Nat) => (c : Int)) = UInt8.ofNat := by funext c; simp
  have h2 : ByteArray.empty.data = #[] := rfl
  rw [h2, List.map_map, h1]
  simp
theorem bytes_nil : bytes (lst 0 0) = ByteArray.empty := rfl
theorem cellsAt_ok {v : AV} {h : T} {id off n : Nat} {k : List AV → Out} (hk : cellsAt h id off n k = .ok v) :
    ∃ cs, k cs = .ok v ∧ cs.length = n ∧ ∀ p lim r w Bk O K, HR p lim r h.get w → r id = some (Bk, O, K) → ∃ xs, VRs r cs xs ∧ xs.length = n ∧ w.rangeAt Bk (O + off) xs := by
  unfold cellsAt at hk
  split at hk
  · rename_i cs fz osz pl hb
    obtain ⟨h1, hk⟩ := dropK_ok hk
    obtain ⟨h2, hk⟩ := takeK_ok hk
    refine ⟨_, hk, by simp at h2 ⊢; omega, fun p lim r w Bk O K H hr => ?_⟩
    obtain ⟨xs, x1, x2⟩ := (H.blk id _ hb).range hr n off (by simp at h2; omega)
    exact ⟨xs, x1, by rw [x1.length]; simp at h2 ⊢; omega, x2⟩
  · cases hk
theorem load_range {w : World} {b o : Nat} {xs : List Value} (h : w.rangeAt b o xs) : (loadCells ⟨b, o, none⟩ xs.length).run P w = .ok xs.toArray w :=
  run_loadCells_list (P := P) w ⟨b, o, none⟩ xs (fun j v hv => by rw [Addr.add_mid]; exact h j v hv)
theorem run_loadNone (w : World) (a : Addr) : (loadCells a 0).run P w = .ok #[] w := run_loadCells_list (P := P) w a [] (fun j v hv => by simp at hv)
theorem le_cap (w : World) (n old : Nat) (e : TypeId) : n ≤ grownCap w n old e := by
  unfold grownCap Question.cut
  exact Nat.le_add_right _ _
theorem drew_new (w : World) (o : Obj) : (w.drew.alloc o).heap[w.heap.size]? = some o := heap_alloc_new w.drew o
/-- bytes of a text, in a block of their own -/
theorem BR.ofText {r : Rn} {w : World} {nx m N C : Nat} {e : TypeId} (hr : r nx = some (w.heap.size, 0, C)) (hC : m ≤ C) :
    BR r nx (.c ((lst m N).map fun (c : Nat) => AV.i .u8 (Int.ofNat c)) 0 1 none) (w.drew.alloc (.cells (bytesRow (bytes (lst m N)) C) e ((bytesRow (bytes (lst m N)) C).size, (bytesRow (bytes (lst m N)) C).size + 1))) := by
  have hb0 : (bytes (lst m N)).size = m := by rw [bytes_size, lst_length]
  have hs : (bytesRow (bytes (lst m N)) C).size = C := by
    simp only [bytesRow, Array.size_append, Array.size_map, Array.size_replicate]
    have : (bytes (lst m N)).data.size = m := hb0
    omega
  have hfz : ∀ o, o < C → (w.drew.alloc (.cells (bytesRow (bytes (lst m N)) C) e ((bytesRow (bytes (lst m N)) C).size, (bytesRow (bytes (lst m N)) C).size + 1))).frozen? ⟨w.heap.size, o, none⟩ = false := fun o ho => by
    simp only [World.frozen?]
    rw [drew_new, hs]
    simp; omega
  have hce : ∀ o, (w.drew.alloc (.cells (bytesRow (bytes (lst m N)) C) e ((bytesRow (bytes (lst m N)) C).size, (bytesRow (bytes (lst m N)) C).size + 1))).cell? ⟨w.heap.size, o, none⟩ = (bytesRow (bytes (lst m N)) C)[o]? := fun o => by
    simp only [World.cell?]
    rw [drew_new]
    simp
  have hll : ((lst m N).map fun (c : Nat) => AV.i .u8 (Int.ofNat c)).length = m := by simp [lst_length]
  refine ⟨w.heap.size, 0, C, hr, by simp, fun j a hj => ?_, fun j h1 h2 => ?_, fun o h1 h2 => ?_, fun _ => by rw [hll]; omega, fun t ht => (by cases ht), by simp only [World.shape?]; rw [drew_new]; rfl⟩
  · have hjm : j < m := by have := (List.getElem?_eq_some_iff.1 hj).1; rwa [hll] at this
    refine ⟨.int .u8 ((byteN N j : Nat) : Int), ?_, ?_⟩
    · rw [Nat.zero_add, hce]
      have hb : byteN N j % 256 = byteN N j := Nat.mod_eq_of_lt (Nat.mod_lt _ (by decide))
      have h1 : (bytes (lst m N)).data[j]? = some (UInt8.ofNat (byteN N j)) := by
        have := congrArg (fun l : List UInt8 => l[j]?) (bytes_toList (lst m N))
        simpa [lst_get hjm] using this
      have hlt : j < (bytes (lst m N)).data.size := (Array.getElem?_eq_some_iff.1 h1).1
      unfold bytesRow
      rw [Array.getElem?_append_left (by simpa using hlt), Array.getElem?_map, h1]
      simp [hb]
    · rw [List.getElem?_map, lst_get hjm] at hj
      cases hj; rfl
  · rw [Nat.zero_add]; exact hfz j (by rw [hll] at h2; omega)
  · rw [Nat.zero_add]
    refine ⟨?_, hfz o (by omega)⟩
    rw [hce, Array.getElem?_eq_getElem (by omega)]; rfl
theorem toStr_ok {v : AV} {h : T} {id off n : Nat} {k : KO} (hk : (cellsAt h id off n fun cs => ofU8 cs fun n N => k (.s n N)) = .ok v) :
    ∃ a, k a = .ok v ∧ ∀ p lim r w Bk O K c, HR p lim r h.get w → r id = some (Bk, O, K) → ∃ z, (Conv.bytesToString (.slice (some ⟨Bk, O + off, none⟩) n c)).run P w = .ok z w ∧ VR r a z := by
  obtain ⟨cs, hk, h1, h2⟩ := cellsAt_ok hk
  obtain ⟨ns, m, N, rfl, hk, h3⟩ := ofU8_ok hk
  refine ⟨_, hk, fun p lim r w Bk O K c H hr => ?_⟩
  obtain ⟨xs, x1, x2, x3⟩ := h2 p lim r w Bk O K H hr
  have := x1.ints
  subst this
  have hl := load_range (P := P) x3
  rw [x2] at hl
  have e : (ns.map fun (c : Nat) => Value.int .u8 (c : Int)) = (ns.map fun (c : Nat) => (c : Int)).map (Value.int .u8) := by simp
  rw [e] at hl
  refine ⟨_, run_bytesToString w _ n c _ hl, ?_⟩
  rw [push_bytes]
  show _ = Value.string (bytes (lst m N))
  rw [h3, bytes_mod]
theorem convertK_ok {v : AV} {lim : Nat} {h : T} {nx : Nat} {s d : TypeId} {x : AV} {k : KV} (hl : lim ≤ nx) (hk : convertK P h nx s d x k = .ok v) :
    ∃ a h' nx', k a h' nx' = .ok v ∧ Keeps lim h nx h' nx' ∧ ∀ p r w vx, HR p lim r h.get w → Free nx nx' r → VR r x vx → Res p lim r nx nx' h' a w ((convert s d vx).run P w) := by
  unfold convertK at hk
  split at hk
  · rename_i su du hs hd
    split at hk
    · rename_i kd0 n
      split at hk
      · rename_i kd
        replace hk := wrapK_ok hk
        refine ⟨_, h, nx, hk, Keeps.refl _ _ _, fun p r w vx H hf hx => ?_⟩
        cases hx
        exact Res.pure (z := .int kd (kd.wrap n)) (by cases su <;> simp [convert, run_underlying hs, run_underlying hd, Conv.intToInt]) rfl H
      · obtain ⟨m, N, e1, e2⟩ := strL_eq (Utf8.encode n).data.toList
        rw [e1] at hk
        refine ⟨_, h, nx, hk, Keeps.refl _ _ _, fun p r w vx H hf hx => ?_⟩
        cases hx
        refine Res.pure (z := .string (Utf8.encode n)) (by cases su <;> simp [convert, run_underlying hs, run_underlying hd, Conv.intToString]) ?_ H
        show _ = Value.string (bytes (lst m N))
        rw [e2, bytes_of]
      · cases hk
    · rename_i m N
      split at hk
      · refine ⟨_, h, nx, hk, Keeps.refl _ _ _, fun p r w vx H hf hx => ?_⟩
        cases hx
        exact Res.pure (z := .string (bytes (lst m N))) (by cases su <;> simp [convert, run_underlying hs, run_underlying hd]) rfl H
      · rename_i e
        split at hk
        · rename_i he
          split at hk
          · rename_i i hi
            split at hk
            · rename_i hsz
              have hsz := beq_iff.1 hsz
              rw [u8L_eq, List.append_nil] at hk
              obtain ⟨h', hk, e1⟩ := newK_ok hk
              refine ⟨_, h', nx + 1, hk, keeps_new hl e1, fun p r w vx H hf hx => ?_⟩
              cases hx
              have hn : r nx = none := hf nx (Nat.le_refl _) (by omega)
              have hrun := run_bytes_of_string w s d e (bytes (lst m N)) hs hd he
              have hbs : (bytes (lst m N)).size = m := by rw [bytes_size, lst_length]
              have hC := le_cap w m 0 e
              rw [hbs] at hrun
              refine ⟨updR r nx (w.heap.size, 0, grownCap w m 0 e), _, _, hrun, Ext.one _, ⟨w.heap.size, 0, grownCap w m 0 e, updR_same _ _ _, by simp⟩, ?_, Kp.of_below (below_drew_alloc w _) H.bd⟩
              exact (H.new hn (below_drew_alloc w _) (Nat.le_refl _) (BR.ofText (updR_same _ _ _) hC)).congr e1
            · cases hk
          · cases hk
        · cases hk
      · cases hk
    · rename_i hn1 hn2
      split at hk
      · rename_i e
        split at hk
        · rename_i he
          split at hk
          · refine ⟨_, h, nx, hk, Keeps.refl _ _ _, fun p r w vx H hf hx => ?_⟩
            cases hx
            exact Res.pure (z := .string ByteArray.empty) (by simp [convert, run_underlying hs, run_underlying hd, run_underlying he, Conv.bytesToString]) (by show _ = Value.string (bytes (lst 0 0)); rw [bytes_nil]) H
          · rename_i id off n c
            obtain ⟨a, hk, hf⟩ := toStr_ok (P := P) (k := fun a => k a h nx) hk
            refine ⟨_, h, nx, hk, Keeps.refl _ _ _, fun p r w vx H hfr hx => ?_⟩
            obtain ⟨Bk, O, K, hr, rfl⟩ := hx
            obtain ⟨z, z1, z2⟩ := hf p lim r w Bk O K c H hr
            exact Res.pure (z := z) (by simp [convert, run_underlying hs, run_underlying hd, run_underlying he, z1]) z2 H
          · rename_i id d' sz n
            rw [fN_eq] at hk
            obtain ⟨a, hk, hf⟩ := toStr_ok (P := P) (k := fun a => k a h nx) hk
            refine ⟨_, h, nx, hk, Keeps.refl _ _ _, fun p r w vx H hfr hx => ?_⟩
            obtain ⟨Bk, O, K, hr, rfl⟩ := hx
            obtain ⟨z, z1, z2⟩ := hf p lim r w Bk O K (K - d') H hr
            have z1' : (Conv.bytesToString (.slice (some ⟨Bk, O + d' * sz, none⟩) n (K - d'))).run P w = .ok z w := z1
            exact Res.pure (z := z) (by simp [convert, run_underlying hs, run_underlying hd, run_underlying he, z1']) z2 H
          · refine ⟨_, h, nx, hk, Keeps.refl _ _ _, fun p r w vx H hf hx => ?_⟩
            obtain ⟨ad, c, rfl⟩ := hx
            exact Res.pure (z := .string ByteArray.empty) (by simp [convert, run_underlying hs, run_underlying hd, run_underlying he, Conv.bytesToString, run_loadNone]) (by show _ = Value.string (bytes (lst 0 0)); rw [bytes_nil]) H
          · cases hk
        · cases hk
      · rename_i t
        split at hk
        · refine ⟨_, h, nx, hk, Keeps.refl _ _ _, fun p r w vx H hf hx => ?_⟩
          cases hx
          exact Res.pure (z := .pointer none) (by simp [convert, run_underlying hs, run_underlying hd, Conv.unsafePointer]) rfl H
        · rename_i id
          split at hk
          · rename_i c cs fz osz ty hb
            obtain ⟨inf, hinf, hk, hsz⟩ := sizeK_ok hk
            split at hk
            · cases hk
            · rename_i n hn
              refine ⟨_, h, nx, hk, Keeps.refl _ _ _, fun p r w vx H hf hx => ?_⟩
              obtain ⟨B, O, K, hr, rfl⟩ := hx
              obtain ⟨_, _, _, e0, _, k1, _, _, k4, k5, _⟩ := H.blk id _ hb
              rw [hr] at e0; cases e0
              obtain ⟨hO, m, hsh⟩ : O = 0 ∧ ∃ m, w.shape? B = some (ty + 1, m + 1) := by
                rcases (k5 _ rfl).2 with h1 | ⟨h1, h2⟩ | ⟨h0, h1, n', h2, h3⟩
                · cases h1
                · exact ⟨h1, _, h2⟩
                · have h4 := k4 h0
                  simp only [List.length_cons] at h4
                  exact ⟨h1, n' - 1, by rw [h3]; congr 2; omega⟩
              subst hO
              exact Res.pure (z := .pointer (some ⟨B, 0, none⟩)) (by simp [convert, run_underlying hs, run_underlying hd, Conv.unsafePointer, Conv.seenAt, viewAt, cellsIn, hsh, hsz, hn]) ⟨B, 0, K, hr, rfl⟩ H
          · cases hk
        · cases hk
      · rename_i u
        split at hk
        · refine ⟨_, h, nx, hk, Keeps.refl _ _ _, fun p r w vx H hf hx => ?_⟩
          cases hx
          exact Res.pure (z := .pointer none) (by simp [convert, run_underlying hs, run_underlying hd, Conv.unsafePointer]) rfl H
        · rename_i id
          split at hk
          · rename_i cs fz ty hb
            obtain ⟨inf, hinf, hk, hsz⟩ := sizeK_ok hk
            rw [lenK_eq, Nat.zero_add] at hk
            split at hk
            · rename_i hlies
              refine ⟨_, h, nx, hk, Keeps.refl _ _ _, fun p r w vx H hf hx => ?_⟩
              obtain ⟨B, O, K, hr, rfl⟩ := hx
              obtain ⟨_, _, _, e0, _, k1, _, _, k4, k5, _⟩ := H.blk id _ hb
              rw [hr] at e0; cases e0
              obtain ⟨hO, hsh⟩ : O = 0 ∧ w.shape? B = some (ty + 1, cs.length) := by
                rcases (k5 _ rfl).2 with h1 | ⟨h1, h2⟩ | ⟨h0, h1, n', h2, h3⟩
                · cases h1
                · exact ⟨h1, h2⟩
                · exact absurd rfl h0
              subst hO
              exact Res.pure (z := .pointer (some ⟨B, 0, none⟩)) (by simp [convert, run_underlying hs, run_underlying hd, Conv.unsafePointer, Conv.seenAt, viewAt, variablesAt, hsh, hsz, hlies]) ⟨B, 0, K, hr, rfl⟩ H
            · cases hk
          · cases hk
        · cases hk
      · cases hk
  · cases hk

/-! append and copy -/
theorem lenOfK_ok {v : AV} {x : AV} {k : Nat → Out} (hk : lenOfK x k = .ok v) : ∃ n, k n = .ok v ∧ ∀ r vx, VR r x vx → ∀ w : World, (Builtin.lenOf vx).run P w = .ok n w := by
  unfold lenOfK at hk
  split at hk
  · refine ⟨_, hk, fun r vx hx w => ?_⟩
    obtain ⟨_, _, _, _, rfl⟩ := hx
    rfl
  · refine ⟨_, hk, fun r vx hx w => ?_⟩
    obtain ⟨_, _, _, _, rfl⟩ := hx
    rfl
  · refine ⟨_, hk, fun r vx hx w => ?_⟩
    cases hx
    rfl
  · refine ⟨_, hk, fun r vx hx w => ?_⟩
    cases hx
    show Result.ok (bytes _).size w = _
    rw [bytes_size, lst_length]
  · refine ⟨_, hk, fun r vx hx w => ?_⟩
    obtain ⟨_, _, rfl⟩ := hx
    rfl
  · cases hk
theorem take_lst {n m N : Nat} (h : n ≤ m) : (lst m N).take n = lst n N := by
  apply List.ext_getElem?
  intro i
  by_cases hi : i < n
  · rw [List.getElem?_take, if_pos hi, lst_get (by omega), lst_get hi]
  · rw [List.getElem?_take, if_neg hi, lst_none (by omega)]
theorem firstK_ok {v : AV} {h : T} {sz n : Nat} {x : AV} {k : List AV → Out} (hk : firstK h sz n x k = .ok v) :
    ∃ cs, k cs = .ok v ∧ (x = .sn ∨ cs.length = n * sz) ∧ (x = .sn → cs = []) ∧ ∀ p lim r w vx, HR p lim r h.get w → VR r x vx → ∃ xs, VRs r cs xs ∧ (Builtin.firstCells sz n vx).run P w = .ok xs.toArray w ∧ (Builtin.firstCells sz n vx).run P w.drew = .ok xs.toArray w.drew := by
  unfold firstK at hk
  split at hk
  · rename_i id off l c
    rw [fN_eq] at hk
    obtain ⟨cs, hk, h1, h2⟩ := cellsAt_ok hk
    refine ⟨cs, hk, .inr h1, fun h => (by cases h), fun p lim r w vx H hx => ?_⟩
    obtain ⟨Bk, O, K, hr, rfl⟩ := hx
    obtain ⟨xs, x1, x2, x3⟩ := h2 p lim r w Bk O K H hr
    have := load_range (P := P) x3
    have that := load_range (P := P) (w := w.drew) (show w.drew.rangeAt _ _ xs from x3)
    rw [x2] at this that
    exact ⟨xs, x1, this, that⟩
  · rename_i id d sz' l
    rw [fN_eq, fN_eq] at hk
    obtain ⟨cs, hk, h1, h2⟩ := cellsAt_ok hk
    refine ⟨cs, hk, .inr h1, fun h => (by cases h), fun p lim r w vx H hx => ?_⟩
    obtain ⟨Bk, O, K, hr, rfl⟩ := hx
    obtain ⟨xs, x1, x2, x3⟩ := h2 p lim r w Bk O K H hr
    have := load_range (P := P) x3
    have that := load_range (P := P) (w := w.drew) (show w.drew.rangeAt _ _ xs from x3)
    rw [x2] at this that
    exact ⟨xs, x1, this, that⟩
  · refine ⟨[], hk, .inl rfl, fun _ => rfl, fun p lim r w vx H hx => ?_⟩
    cases hx
    exact ⟨[], rfl, run_firstCells_none w sz n 0 0, run_firstCells_none w.drew sz n 0 0⟩
  · rename_i m N
    split at hk
    · rename_i hc
      simp only [Bool.and_eq_true] at hc
      have h1 := beq_iff.1 hc.1
      have h2 := ble_iff.1 hc.2
      subst h1
      rw [u8L_eq, List.append_nil] at hk
      refine ⟨_, hk, .inr (by simp [lst_length]), fun h => (by cases h), fun p lim r w vx H hx => ?_⟩
      cases hx
      have e : (bytes (lst m N)).extract 0 n = bytes (lst n N) := by
        rw [bytes_extract _ 0 n (Nat.zero_le _) (by rw [lst_length]; exact h2)]
        simp [take_lst h2]
      have e2 : ((bytes (lst n N)).data.map fun (b : UInt8) => Value.int .u8 b.toNat) = ((lst n N).map fun (c : Nat) => Value.int .u8 (c : Int)).toArray := by
        apply Array.ext'
        rw [Array.toList_map, bytes_toList, List.map_map]
        apply List.map_congr_left
        intro a ha
        have := lst_lt ha
        simp [Nat.mod_eq_of_lt this]
      have e3 : ∀ w : World, (Builtin.firstCells 1 n (.string (bytes (lst m N)))).run P w = .ok ((lst n N).map fun (c : Nat) => Value.int .u8 (c : Int)).toArray w := fun w => by simp only [Builtin.firstCells, Sem.run_pure, e, e2]
      exact ⟨_, u8_vals r (lst n N), e3 w, e3 w.drew⟩
    · cases hk
  · split at hk
    · rename_i hn
      have hn := beq_iff.1 hn
      subst hn
      refine ⟨[], hk, .inr (by simp), fun h => (by cases h), fun p lim r w vx H hx => ?_⟩
      obtain ⟨ad, c, rfl⟩ := hx
      exact ⟨[], rfl, by simp [Builtin.firstCells, run_loadNone], by simp [Builtin.firstCells, run_loadNone]⟩
    · cases hk
  · cases hk
/-- what is appended -/
theorem src_ok {v : AV} {h : T} {sz : Nat} {x : AV} {k : Nat → List AV → Out} {tx : TypeId} (ht : (∃ e', P.underlying tx = some (.slice e')) ∨ P.underlying tx = some .string)
    (hk : (lenOfK x fun n => firstK h sz n x fun cs => (match allOne cs with | false => .err 31 9 | true => k n cs)) = .ok v) :
    ∃ n cs, k n cs = .ok v ∧ cs.length = n * sz ∧ ∀ p lim r w vx, HR p lim r h.get w → VR r x vx → ∃ xs, VRs r cs xs ∧ Src P sz tx vx n xs w := by
  obtain ⟨n, hk, h1⟩ := lenOfK_ok (P := P) hk
  obtain ⟨cs, hk, h2, h2', h3⟩ := firstK_ok (P := P) hk
  split at hk
  · cases hk
  · rename_i hone
    have hn : cs.length = n * sz := by
      rcases h2 with h2 | h2
      · subst h2
        have e : n = 0 := by
          have := h1 (fun _ => none) (.slice none 0 0) rfl default
          cases this; rfl
        subst e
        rw [h2' rfl]; simp
      · exact h2
    refine ⟨n, cs, hk, hn, fun p lim r w vx H hx => ?_⟩
    obtain ⟨xs, x1, x2, y2⟩ := h3 p lim r w vx H hx
    refine ⟨xs, x1, ⟨ht, h1 r vx hx, x2, y2, by rw [x1.length, hn], fun u hu => ?_⟩⟩
    obtain ⟨j, hj⟩ := List.getElem?_of_mem hu
    have hlt := (List.getElem?_eq_some_iff.1 hj).1
    rw [x1.length] at hlt
    obtain ⟨z, z1, z2⟩ := x1.get (List.getElem?_eq_getElem hlt)
    rw [hj] at z1; cases z1
    exact z2.one (allOne_spec hone _ (List.getElem_mem hlt))
end Clu
end Go.Proofs.Ythghohgjedjpbaa
