/-
  Runs of closed calls by the kernel: append, copy, the least and the greatest.
-/
import Derived.Test.YthghohgjedjpbaaCluM
namespace Go.Proofs.Ythghohgjedjpbaa
namespace Clu
open Go.RowKit
set_option linter.unusedVariables false
variable {P : Program}

theorem growBy_le (n : Nat) : ∀ (k c : Nat), c ≤ 2 * n + 192 → Builtin.growBy n k c ≤ 2 * n + 192
  | 0, c, h => h
  | k + 1, c, h => by
    unfold Builtin.growBy
    split
    · exact h
    · exact growBy_le n k _ (by omega)
theorem nextcap_le {n old : Nat} (h : old < n) : Builtin.nextslicecap n old ≤ 2 * n + 1000 := by
  unfold Builtin.nextslicecap
  split
  · omega
  · split
    · omega
    · have := growBy_le n 4 old (by omega)
      omega
theorem plOf_grow {e d : Nat} {pl : Option TypeId} (t : TypeId) (h : plOf e d pl = some t) : d = 0 ∧ pl = some t := by
  unfold plOf at h
  split at h
  · split at h
    · rename_i u hc
      simp only [Bool.and_eq_true] at hc
      cases h
      rw [beq_iff.1 hc.1]
      exact ⟨beq_iff.1 hc.2, rfl⟩
    · cases h
  · cases h
theorem plOf_row {e d : Nat} {pl : Option TypeId} {t : TypeId} (h : plOf e d pl = some t) : t = e := by
  unfold plOf at h
  split at h
  · split at h
    · cases h; rfl
    · cases h
  · cases h
/-- a block grows where it lies, and has another number now -/
theorem HR.grow {p : Nat → Prop} {lim : Nat} {r : Rn} {h : Nat → Option Blk} {w : World} (H : HR p lim r h w) {id nx d sz : Nat} {cs : List AV} {pl : Option TypeId} (hid : h id = some (.c cs 0 sz pl)) (hl : lim ≤ id) (hsz : sz ≠ 0)
    {Bk O K : Nat} (hr : r id = some (Bk, O, K)) (hn : r nx = none) {vs : List AV} {xs : List Value} (hvs : VRs r vs xs) (hd : d * sz ≤ cs.length) (hfit : cs.length + vs.length ≤ sz * K) (hv0 : 0 < vs.length) {pl' : Option TypeId} (hpl' : ∀ t, pl' = some t → d = 0 ∧ pl = some t) :
    (∀ j, j < xs.length → (w.cell? ⟨Bk, O + cs.length + j, none⟩).isSome = true ∧ w.frozen? ⟨Bk, O + cs.length + j, none⟩ = false) ∧
    HR p lim (updR r nx (Bk, O + d * sz, K - d)) (upd (upd h id none) nx (some (.c (cs.drop (d * sz) ++ vs) 0 sz pl'))) (w.setCells Bk (O + cs.length) xs) ∧ Kp p w (w.setCells Bk (O + cs.length) xs) := by
  obtain ⟨Bk', O', K', h1, hlt, k1, k2, k3, k4, k5, k6⟩ := H.blk id _ hid
  rw [hr] at h1; cases h1
  have hxl := hvs.length
  have hth : ∀ j, j < xs.length → (w.cell? ⟨Bk, O + cs.length + j, none⟩).isSome = true ∧ w.frozen? ⟨Bk, O + cs.length + j, none⟩ = false := fun j hj => by
    have := k3 (cs.length + j) (by omega) (by omega)
    rwa [← Nat.add_assoc] at this
  have hlow := H.low id _ _ hid hl rfl hr
  have hle := updR_le (Bk, O + d * sz, K - d) hn
  have hin := World.cell?_setCells_in Bk xs (O + cs.length) w (fun j hj => (hth j hj).1)
  have hno : h nx = none := by
    cases hh : h nx with
    | none => rfl
    | some b => obtain ⟨_, _, _, e, _⟩ := H.blk nx b hh; rw [hn] at e; cases e
  have hne : id ≠ nx := fun e => by rw [e, hno] at hid; cases hid
  have old : ∀ j b, upd (upd h id none) nx (some (.c (cs.drop (d * sz) ++ vs) 0 sz pl')) j = some b → j ≠ nx → h j = some b ∧ j ≠ id := fun j b hj hjn => by
    rw [upd_ne _ _ hjn] at hj
    by_cases hji : j = id
    · subst hji; rw [upd_same] at hj; cases hj
    · rw [upd_ne _ _ hji] at hj; exact ⟨hj, hji⟩
  have hKd : sz * (K - d) + d * sz = sz * K ∨ K < d := by
    rcases Nat.lt_or_ge K d with h | h
    · exact .inr h
    · left; rw [Nat.mul_comm d sz, ← Nat.mul_add]; congr 1; omega
  refine ⟨hth, ⟨fun j b hj => ?_, fun j j' b b' x x' hS e1 e2 e3 e4 e5 => ?_, fun j b x e1 e2 e0 e3 => ?_, fun k hk => Nat.lt_of_lt_of_le (H.bd k hk) (size_setCells _ _ _ _), fun g hg => hle _ _ (H.glob g hg)⟩, kp_setCells Bk hlow xs _ w (Kp.refl _ _)⟩
  · by_cases hjn : j = nx
    · subst hjn
      rw [upd_same] at hj; cases hj
      refine ⟨Bk, O + d * sz, K - d, updR_same _ _ _, Nat.lt_of_lt_of_le hlt (size_setCells _ _ _ _), fun i a ha => ?_, fun i h3 h4 => ?_, fun i h3 h4 => ?_, fun _ => ?_, fun ty h3 => ?_, shape_setCells _ _ _ _ k6⟩
      · by_cases hi : i < cs.length - d * sz
        · rw [List.getElem?_append_left (by simp; omega), List.getElem?_drop] at ha
          obtain ⟨x, x1, x2⟩ := k1 _ a ha
          refine ⟨x, ?_, x2.mono hle⟩
          rw [World.cell?_setCells_out _ _ _ _ _ (fun _ _ => by simp; omega), Nat.add_assoc]
          exact x1
        · rw [List.getElem?_append_right (by simp; omega)] at ha
          simp only [List.length_drop] at ha
          obtain ⟨x, x1, x2⟩ := hvs.get ha
          have hlt' : i - (cs.length - d * sz) < xs.length := (List.getElem?_eq_some_iff.1 x1).1
          have := hin _ hlt'
          have e : O + cs.length + (i - (cs.length - d * sz)) = O + d * sz + i := by omega
          rw [e] at this
          refine ⟨x, ?_, x2.mono hle⟩
          rw [this, ← x1, List.getElem?_eq_getElem hlt']
      · rw [World.frozen?_setCells, Nat.add_assoc]
        simp only [List.length_append, List.length_drop] at h4
        by_cases hi : d * sz + i < cs.length
        · exact k2 _ (Nat.zero_le _) hi
        · exact (k3 _ (by omega) (by omega)).2
      · rw [World.frozen?_setCells, Nat.add_assoc]
        simp only [List.length_append, List.length_drop] at h3
        have hlt2 : d * sz + i < sz * K := by
          rcases hKd with h | h
          · omega
          · have : K - d = 0 := by omega
            rw [this] at h4; simp at h4
        obtain ⟨y1, y2⟩ := k3 (d * sz + i) (by omega) hlt2
        exact ⟨World.isSome_setCells _ _ _ _ _ y1, y2⟩
      · simp only [List.length_append, List.length_drop]
        rcases hKd with h | h
        · omega
        · exfalso
          have h5 : sz * (K + 1) ≤ sz * d := Nat.mul_le_mul_left sz h
          rw [Nat.mul_add] at h5
          rw [Nat.mul_comm d sz] at hd
          have : 0 < sz := Nat.pos_of_ne_zero hsz
          omega
      · obtain ⟨hd0, hpl⟩ := hpl' ty h3
        subst hd0
        obtain ⟨y1, y2⟩ := k5 ty hpl
        refine ⟨fun o => by rw [World.frozen?_setCells]; exact y1 o, ?_⟩
        rw [shape_setCells_eq]
        rcases y2 with y2 | ⟨y2, y3⟩ | ⟨y2, y3, n, y4, y5⟩
        · exact .inl y2
        · exfalso
          have h6 := (k3 cs.length (Nat.le_refl _) (by omega)).1
          subst y2
          rw [Nat.zero_add] at h6
          unfold World.cell? at h6
          unfold World.shape? at y3
          split at y3
          · rename_i c el fr hh
            simp only [Option.some.injEq, Prod.mk.injEq] at y3
            simp [hh, ← y3.2] at h6
          · cases y3
        · exact .inr (.inr ⟨y2, by rw [y3]; simp, n, by simpa using y4, y5⟩)
    · obtain ⟨e1, e2⟩ := old j b hj hjn
      have hb2 : ∀ x, r j = some x → x.1 ≠ Bk := fun x hx e => e2 (H.inj j id _ _ _ _ (.inr (.inl hl)) e1 hid hx hr e)
      have := (H.blk j b e1).same (w' := w.setCells Bk (O + cs.length) xs) (size_setCells _ _ _ _) (fun x hx => by
        obtain ⟨B2, O2, K2, m1, m2, _⟩ := H.blk j b e1
        rw [hx] at m1; cases m1
        exact World.heap_setCells_other w Bk _ xs m2 (hb2 _ hx))
      obtain ⟨B2, O2, K2, m1, m2, m3⟩ := this
      refine ⟨B2, O2, K2, hle _ _ m1, m2, ?_⟩
      cases b with
      | c cells fz osz pl => exact ⟨fun i a ha => by obtain ⟨x, x1, x2⟩ := m3.1 i a ha; exact ⟨x, x1, x2.mono hle⟩, m3.2⟩
      | it n N pos => exact m3
      | mp es clock => obtain ⟨ys, y1, y2⟩ := m3; exact ⟨ys, y1, y2.mono hle⟩
  · have ne : ∀ j b x, upd (upd h id none) nx (some (.c (cs.drop (d * sz) ++ vs) 0 sz pl')) j = some b → j ≠ nx → updR r nx (Bk, O + d * sz, K - d) j = some x → x.1 ≠ Bk := fun j b x h1 h2 h3 => by
      obtain ⟨e1, e2⟩ := old j b h1 h2
      rw [updR_ne _ _ h2] at h3
      exact fun e => e2 (H.inj j id _ _ _ _ (.inr (.inl hl)) e1 hid h3 hr e)
    by_cases hj : j = nx <;> by_cases hj' : j' = nx
    · omega
    · subst hj
      rw [updR_same] at e3; cases e3
      exact absurd e5.symm (ne j' _ _ e2 hj' e4)
    · subst hj'
      rw [updR_same] at e4; cases e4
      exact absurd e5 (ne j _ _ e1 hj e3)
    · rw [updR_ne _ _ hj] at e3
      rw [updR_ne _ _ hj'] at e4
      exact H.inj j j' _ _ _ _ hS (old j _ e1 hj).1 (old j' _ e2 hj').1 e3 e4 e5
  · by_cases hj : j = nx
    · subst hj; rw [updR_same] at e3; cases e3; exact hlow
    · rw [updR_ne _ _ hj] at e3
      exact H.low j _ x (old j _ e1 hj).1 e2 e0 e3

theorem ble_ff {a b : Nat} (h : Nat.ble a b = false) : b < a := by
  have : ¬ a ≤ b := fun h' => by rw [ble_iff.2 h'] at h; cases h
  omega
/-- a new row: what was there, what is appended, and room -/
theorem new_row {p : Nat → Prop} {lim : Nat} {r : Rn} {h : Nat → Option Blk} {w : World} (H : HR p lim r h w) {nx sz need C : Nat} {e : TypeId} {zc : Array Value} (hn : r nx = none) {cs : List AV} {xs : List Value} (hx : VRs r cs xs) (hlen : cs.length = need * sz) (hC : need ≤ C) (hz : zc.size = sz) {pl : Option TypeId} (hpl : ∀ t, pl = some t → t = e ∧ sz ≠ 0) :
    HR p lim (updR r nx (w.heap.size, 0, C)) (upd h nx (some (.c cs 0 sz pl))) (w.drew.alloc (.cells (xs.toArray ++ Builtin.zeroCells zc (C - need)) e)) ∧ Kp p w (w.drew.alloc (.cells (xs.toArray ++ Builtin.zeroCells zc (C - need)) e)) := by
  have e1 : xs.toArray ++ Builtin.zeroCells zc (C - need) = (xs ++ (Builtin.zeroCells zc (C - need)).toList).toArray := by
    apply Array.ext'; simp
  have hzl : (Builtin.zeroCells zc (C - need)).toList.length = (C - need) * sz := by simp [Builtin.zeroCells, hz]
  have hs : sz * C = need * sz + (C - need) * sz := by rw [← Nat.add_mul, Nat.mul_comm]; congr 1; omega
  rw [e1]
  refine ⟨H.new hn (below_drew_alloc w _) (Nat.le_refl _) ?_, Kp.of_below (below_drew_alloc w _) H.bd⟩
  exact BR.fresh (w := w.drew) (hx.mono (updR_le _ hn)) (updR_same _ _ _) (by rw [hx.length, hzl, hlen]; omega) (fun _ => by rw [hlen]; omega) (fun t ht => ⟨(hpl t ht).1, .inr (hpl t ht).2⟩)
def killH (h : Nat → Option Blk) : Option Nat → Nat → Option Blk
  | none => h
  | some id => upd h id none
theorem grewK_ok {v : AV} {lim : Nat} {h : T} {nx sz need bytes : Nat} {olds news : List AV} {pl : Option TypeId} {kill : Option Nat} {k : KV} (hl : lim ≤ nx) (hk : grewK lim h nx sz need bytes olds news pl kill k = .ok v) :
    ∃ h', k (.so nx 0 sz need) h' (nx + 1) = .ok v ∧ Keeps lim h nx h' (nx + 1) ∧ (2 * need + 1000) * bytes ≤ 281474976710656 ∧ need ≤ 4294967296 ∧ (∀ id, kill = some id → lim ≤ id) ∧
      ∀ j, h'.get j = upd (killH h.get kill) nx (some (.c (olds ++ news) 0 sz pl)) j := by
  unfold grewK at hk
  split at hk
  · cases hk
  rename_i c1
  split at hk
  · cases hk
  rename_i c2
  · have c1 : (2 * need + 1000) * bytes ≤ 281474976710656 := ble_iff.1 c1
    have c2 := ble_iff.1 c2
    rw [appK_eq] at hk
    split at hk
    · obtain ⟨h', hk, e1⟩ := newK_ok hk
      exact ⟨h', hk, keeps_new hl e1, c1, c2, fun id hid => (by cases hid), e1⟩
    · rename_i id
      split at hk
      · rename_i hid
        have hid := ble_iff.1 hid
        obtain ⟨h1, hk, e0⟩ := Tr.setK_ok hk
        obtain ⟨h', hk, e1⟩ := newK_ok hk
        refine ⟨h', hk, ⟨Nat.le_succ _, fun j hj => ?_, fun j hj hjo => ?_, fun j x hx hr => ?_⟩, c1, c2, fun id' h => (by cases h; exact hid), fun j => ?_⟩
        · rw [e1, upd_ne _ _ (by omega), e0, if_neg (by omega)]
        · rw [e1, upd_ne _ _ (by omega), e0]; split
          · rfl
          · exact hj
        · rw [e1] at hx
          by_cases hjn : j = nx
          · subst hjn; rw [upd_same] at hx; cases hx; cases hr
          · rw [upd_ne _ _ hjn, e0] at hx
            split at hx
            · cases hx
            · exact hx
        · rw [e1]
          unfold killH upd
          by_cases hjn : j = nx
          · simp [hjn]
          · simp [hjn, e0]
      · cases hk

/-- nothing of a heap is used but what is there -/
theorem src_nil {size n : Nat} {tx : TypeId} {x : Value} {news : List Value} {w : World} (h : Src P size tx x n news w) (hn : n = 0) : Src P size tx x 0 [] w := by
  subst hn
  have := h.newsLen
  simp at this
  subst this
  exact h
theorem put_keeps {lim : Nat} {h h' : T} {nx : Nat} (e : KeepS lim h h') : Keeps lim h nx h' nx := keeps_set e
/-- what a store leaves -/
theorem storeK_put {v : AV} {lim : Nat} {h : T} {id off : Nat} {vs : List AV} {k : T → Out} (hne : vs ≠ []) (hk : storeK lim h id off vs k = .ok v) :
    ∃ h' cs fz osz pl, k h' = .ok v ∧ h.get id = some (.c cs fz osz pl) ∧ lim ≤ id ∧ fz ≤ off ∧ off + vs.length ≤ cs.length ∧ (∀ j, h'.get j = upd h.get id (some (.c (over cs off vs) fz osz pl)) j) := by
  unfold storeK at hk
  split at hk
  · split at hk
    · rename_i hn
      exact absurd (List.eq_nil_of_length_eq_zero (beq_iff.1 hn)) hne
    · cases hk
  · rename_i hc
    simp only [Bool.and_eq_true] at hc
    obtain ⟨hl, hm⟩ := hc
    split at hk
    · cases hk
    · split at hk
      · rename_i cs fz osz pl hb
        have hfz : fz ≤ off := by
          unfold mayStore at hm
          rw [hb] at hm
          exact Nat.le_of_ble_eq_true hm
        have h1 : off + vs.length ≤ cs.length := by
          unfold putK at hk
          cases hb2 : Nat.ble (Nat.add off vs.length) cs.length with
          | false => rw [hb2] at hk; cases hk
          | true => exact ble_iff.1 hb2
        obtain ⟨_, h2⟩ := putK_ok hk
        obtain ⟨h', h3, h4⟩ := Tr.setK_ok h2
        exact ⟨h', cs, fz, osz, pl, h3, hb, ble_iff.1 hl, hfz, h1, h4⟩
      · cases hk
theorem keeps_upd {lim : Nat} {h h' : T} {nx id : Nat} {b b' : Blk} (hb : h.get id = some b) (hl : lim ≤ id) (e : ∀ j, h'.get j = upd h.get id (some b') j) (hro : b'.ro = false) : Keeps lim h nx h' nx :=
  keeps_set (KeepS.upd hb hl e hro)
set_option maxHeartbeats 1000000 in
theorem appX_ok {v : AV} {lim : Nat} {h : T} {nx : Nat} {sT xT e : TypeId} {i : TypeInfo} {z : Value} {s x : AV} {k : KV} (hl : lim ≤ nx) (hu : P.underlying sT = some (.slice e)) (hi : P.info? e = some i) (hz : i.zero = some z) (hzs : z.cells.size = i.size) (hsz : 0 < i.size)
    (ht : (∃ e', P.underlying xT = some (.slice e')) ∨ P.underlying xT = some .string) (hk : appX e lim h nx i.size i.bytes s x k = .ok v) :
    ∃ a h' nx', k a h' nx' = .ok v ∧ Keeps lim h nx h' nx' ∧ ∀ p r w vs vx ty, HR p lim r h.get w → Free nx nx' r → VR r s vs → VR r x vx → Res p lim r nx nx' h' a w ((Builtin.append_ #[sT, xT] ty #[vs, vx]).run P w) := by
  have hk0 := hk
  clear hk
  obtain ⟨n, news, hk, hnl, hsrc⟩ := src_ok (P := P) ht hk0
  clear hk0
  unfold appC at hk
  split at hk
  · split at hk
    · rename_i hn
      have hn := beq_iff.1 hn
      refine ⟨_, h, nx, hk, Keeps.refl _ _ _, fun p r w vs vx ty H hf hs hx => ?_⟩
      cases hs
      obtain ⟨xs, x1, x2⟩ := hsrc p lim r w vx H hx
      exact Res.pure (run_append_nothing w sT xT ty e i hu hi none 0 0 (Nat.le_refl _) vx (src_nil x2 hn)) rfl H
    · rename_i hn
      have hn := beq_ff.1 hn
      obtain ⟨h', hk, hkeep, c1, c2, _, e1⟩ := grewK_ok hl hk
      refine ⟨_, h', nx + 1, hk, hkeep, fun p r w vs vx ty H hf hs hx => ?_⟩
      cases hs
      obtain ⟨xs, x1, x2⟩ := hsrc p lim r w vx H hx
      have hn0 : r nx = none := hf nx (Nat.le_refl _) (by omega)
      have hg : 0 < 0 + n := by omega
      have hb := Nat.mul_le_mul_right i.bytes (nextcap_le hg)
      have hrun := run_append_grow_src w sT xT ty e i z hu hi hz none 0 0 [] (run_firstCells_none w.drew i.size 0 0 0) vx n xs x2 hg (by omega) (Nat.le_trans hb (by simpa using c1))
      simp only [Nat.zero_add, List.nil_append] at hrun
      have hC := le_cap w n 0 e
      obtain ⟨H', K'⟩ := new_row H hn0 x1 hnl hC hzs (e := e) (pl := some e) (fun t ht => ⟨by cases ht; rfl, by omega⟩)
      exact ⟨_, _, _, hrun, Ext.one _, ⟨w.heap.size, 0, _, updR_same _ _ _, by simp⟩, H'.congr e1, K'⟩
  · rename_i id off len cap
    unfold appSl at hk
    rw [fN_eq] at hk
    split at hk
    · rename_i hroom
      have hroom : len + n ≤ cap := ble_iff.1 hroom
      split at hk
      · rename_i hn
        have hn := beq_iff.1 hn
        refine ⟨_, h, nx, hk, Keeps.refl _ _ _, fun p r w vs vx ty H hf hs hx => ?_⟩
        obtain ⟨xs, x1, x2⟩ := hsrc p lim r w vx H hx
        obtain ⟨Bk, O, K, hr, rfl⟩ := hs
        exact Res.pure (run_append_nothing w sT xT ty e i hu hi _ len cap (by omega) vx (src_nil x2 hn)) ⟨Bk, O, K, hr, rfl⟩ H
      · rename_i hn
        have hn := beq_ff.1 hn
        rw [fN_eq] at hk
        have hne : news ≠ [] := fun h0 => by
          subst h0
          have : n * i.size = 0 := by simpa using hnl.symm
          rcases Nat.mul_eq_zero.1 this with h | h <;> omega
        obtain ⟨h', cs, fz, osz, pl, hk, hb, hlid, hfz, hfit, e1⟩ := storeK_put hne hk
        refine ⟨_, h', nx, hk, keeps_upd hb hlid e1 (ro_over hfit hfz), fun p r w vs vx ty H hf hs hx => ?_⟩
        obtain ⟨xs, x1, x2⟩ := hsrc p lim r w vx H hx
        obtain ⟨Bk, O, K, hr, rfl⟩ := hs
        obtain ⟨hth, H', K'⟩ := H.put hb hlid hr x1 hfit hfz
        have eo : ∀ j, O + (off.add (len.mul i.size)) + j = O + off + len * i.size + j := fun j => by
          show O + (off + len * i.size) + j = _; omega
        have eo0 : O + (off.add (len.mul i.size)) = O + off + len * i.size := by
          show O + (off + len * i.size) = _; omega
        have hrun := run_append_room_src w sT xT ty e i hu hi Bk (O + off) len cap vx n xs x2 hroom (fun j hj => by have := (hth j hj).1; rwa [eo] at this) (fun j hj => by have := (hth j hj).2; rwa [eo] at this)
        rw [eo0] at H' K'
        exact ⟨r, _, _, hrun, Ext.refl _ _ _, ⟨Bk, O, K, hr, rfl⟩, H'.congr e1, K'⟩
    · rename_i hroom
      have hroom : cap < len + n := ble_ff hroom
      rw [fN_eq] at hk
      obtain ⟨olds, hk, hol, hold⟩ := cellsAt_ok hk
      obtain ⟨h', hk, hkeep, c1, c2, _, e1⟩ := grewK_ok hl hk
      refine ⟨_, h', nx + 1, hk, hkeep, fun p r w vs vx ty H hf hs hx => ?_⟩
      obtain ⟨xs, x1, x2⟩ := hsrc p lim r w vx H hx
      obtain ⟨Bk, O, K, hr, rfl⟩ := hs
      obtain ⟨ys, y1, y2, y3⟩ := hold p lim r w Bk O K H hr
      have hn0 : r nx = none := hf nx (Nat.le_refl _) (by omega)
      have hb := Nat.mul_le_mul_right i.bytes (nextcap_le hroom)
      have hfirst : (Builtin.firstCells i.size len (.slice (some ⟨Bk, O + off, none⟩) len cap)).run P w.drew = .ok ys.toArray w.drew := by
        have := load_range (P := P) (w := w.drew) (show w.drew.rangeAt _ _ ys from y3)
        rw [y2] at this
        exact this
      have hrun := run_append_grow_src w sT xT ty e i z hu hi hz (some ⟨Bk, O + off, none⟩) len cap ys hfirst vx n xs x2 hroom (by have : len + n ≤ 4294967296 := c2; omega) (Nat.le_trans hb c1)
      have hC := le_cap w (len + n) cap e
      obtain ⟨H', K'⟩ := new_row H hn0 (y1.append x1) (need := len + n) (by rw [List.length_append, hol, hnl, Nat.add_mul]; rfl) hC hzs (e := e) (pl := some e) (fun t ht => ⟨by cases ht; rfl, by omega⟩)
      exact ⟨_, _, _, hrun, Ext.one _, ⟨w.heap.size, 0, _, updR_same _ _ _, by simp⟩, H'.congr e1, K'⟩
  · rename_i id d sz' len
    split at hk
    · rename_i hn
      have hn := beq_iff.1 hn
      split at hk
      · rename_i cs fz osz pl hb
        split at hk
        · rename_i hc
          simp only [Bool.and_eq_true] at hc
          have ho := beq_iff.1 hc.1
          have hs1 := beq_iff.1 hc.2
          subst ho
          subst hs1
          rw [lenK_eq, Nat.zero_add] at hk
          split at hk
          · rename_i hroom
            have hroom : (d + len) * i.size ≤ cs.length := ble_iff.1 hroom
            refine ⟨_, h, nx, hk, Keeps.refl _ _ _, fun p r w vs vx ty H hf hs hx => ?_⟩
            obtain ⟨xs, x1, x2⟩ := hsrc p lim r w vx H hx
            obtain ⟨Bk, O, K, hr, rfl⟩ := hs
            have hle : len ≤ K - d := by
              obtain ⟨_, _, _, e0, _, m⟩ := H.blk id _ hb
              rw [hr] at e0; cases e0
              have m4 := m.2.2.2.1 (by omega)
              have : (d + len) * i.size ≤ K * i.size := by rw [Nat.mul_comm K]; exact Nat.le_trans hroom m4
              have := Nat.le_of_mul_le_mul_right this hsz
              omega
            exact Res.pure (run_append_nothing w sT xT ty e i hu hi _ len (K - d) hle vx (src_nil x2 hn)) ⟨Bk, O, K, hr, rfl⟩ H
          · cases hk
        · cases hk
      · cases hk
    unfold appSo at hk
    split at hk
    · cases hk
    rename_i hc
    split at hk
    · rename_i cs fz osz pl hb
      simp only [Bool.and_eq_true] at hc
      have hs1 := beq_iff.1 hc.1
      have hn := blt_iff.1 hc.2
      subst hs1
      split at hk
      · cases hk
      · rename_i ho
        have ho := beq_iff.1 ho
        subst ho
        rw [fN_eq, fN_eq, lenK_eq, Nat.zero_add] at hk
        have hne : news ≠ [] := fun h0 => by
          subst h0
          have : n * i.size = 0 := by simpa using hnl.symm
          rcases Nat.mul_eq_zero.1 this with h | h <;> omega
        split at hk
        · rename_i hroom
          have hroom : (d + (len + n)) * i.size ≤ cs.length := ble_iff.1 hroom
          obtain ⟨h', cs', fz', osz', pl', hk, hb', hlid, hfz, hfit, e1⟩ := storeK_put hne hk
          rw [hb] at hb'; cases hb'
          refine ⟨_, h', nx, hk, keeps_upd hb hlid e1 (ro_over hfit hfz), fun p r w vs vx ty H hf hs hx => ?_⟩
          obtain ⟨xs, x1, x2⟩ := hsrc p lim r w vx H hx
          obtain ⟨Bk, O, K, hr, rfl⟩ := hs
          obtain ⟨hth, H', K'⟩ := H.put hb hlid hr x1 hfit hfz
          have hcap : len + n ≤ K - d := by
            obtain ⟨_, _, _, e0, _, m⟩ := H.blk id _ hb
            rw [hr] at e0; cases e0
            have m4 := m.2.2.2.1 (by omega)
            have : (d + (len + n)) * i.size ≤ K * i.size := by rw [Nat.mul_comm K]; exact Nat.le_trans hroom m4
            have := Nat.le_of_mul_le_mul_right this hsz
            omega
          have eo : ∀ j, O + ((d.add len).mul i.size) + j = O + d * i.size + len * i.size + j := fun j => by
            show O + (d + len) * i.size + j = _; rw [Nat.add_mul]; omega
          have eo0 : O + ((d.add len).mul i.size) = O + d * i.size + len * i.size := by
            show O + (d + len) * i.size = _; rw [Nat.add_mul]; omega
          have hrun := run_append_room_src w sT xT ty e i hu hi Bk (O + d * i.size) len (K - d) vx n xs x2 hcap (fun j hj => by have := (hth j hj).1; rwa [eo] at this) (fun j hj => by have := (hth j hj).2; rwa [eo] at this)
          rw [eo0] at H' K'
          exact ⟨r, _, _, hrun, Ext.refl _ _ _, ⟨Bk, O, K, hr, rfl⟩, H'.congr e1, K'⟩
        · rename_i hroom
          have hroom : cs.length < (d + (len + n)) * i.size := ble_ff hroom
          split at hk
          · rename_i hc2
            simp only [Bool.and_eq_true] at hc2
            have hend : (d + len) * i.size = cs.length := beq_iff.1 hc2.1
            have hfz := beq_iff.1 hc2.2
            subst hfz
            rw [fN_eq] at hk
            obtain ⟨hdl, hk⟩ := dropK_ok hk
            have hdl : d * i.size ≤ cs.length := hdl
            obtain ⟨h', hk, hkeep, c1, c2, hlid, e1⟩ := grewK_ok hl hk
            have hlid := hlid id rfl
            refine ⟨_, h', nx + 1, hk, hkeep, fun p r w vs vx ty H hf hs hx => ?_⟩
            obtain ⟨xs, x1, x2⟩ := hsrc p lim r w vx H hx
            obtain ⟨Bk, O, K, hr, rfl⟩ := hs
            have hn0 : r nx = none := hf nx (Nat.le_refl _) (by omega)
            by_cases hin : len + n ≤ K - d
            · have hfit : cs.length + news.length ≤ i.size * K := by
                have h5 : (d + (len + n)) * i.size ≤ K * i.size := Nat.mul_le_mul_right _ (by omega)
                rw [hnl, ← hend, ← Nat.add_mul, Nat.mul_comm i.size]
                rw [Nat.add_assoc]
                exact h5
              obtain ⟨hth, H', K'⟩ := H.grow hb hlid (by omega) hr hn0 x1 hdl hfit (by cases news with | nil => exact absurd rfl hne | cons a l => simp) (pl' := plOf e d pl) plOf_grow
              have eo : ∀ j, O + cs.length + j = O + d * i.size + len * i.size + j := fun j => by rw [← hend, Nat.add_mul]; omega
              have eo0 : O + cs.length = O + d * i.size + len * i.size := by rw [← hend, Nat.add_mul]; omega
              have hrun := run_append_room_src w sT xT ty e i hu hi Bk (O + d * i.size) len (K - d) vx n xs x2 hin (fun j hj => by have := (hth j hj).1; rwa [eo] at this) (fun j hj => by have := (hth j hj).2; rwa [eo] at this)
              rw [eo0] at H' K'
              exact ⟨_, _, _, hrun, Ext.one _, ⟨Bk, O + d * i.size, K - d, updR_same _ _ _, by simp⟩, H'.congr e1, K'⟩
            · have hg : K - d < len + n := by omega
              obtain ⟨ys, y1, y2⟩ := (H.blk id _ hb).range hr (len * i.size) (d * i.size) (by rw [← hend, Nat.add_mul]; omega)
              have hol : (cs.drop (d * i.size)).length = len * i.size := by rw [List.length_drop, ← hend, Nat.add_mul]; omega
              have htk : (cs.drop (d * i.size)).take (len * i.size) = cs.drop (d * i.size) := List.take_of_length_le (by omega)
              rw [htk] at y1
              have hyl : ys.length = len * i.size := by rw [y1.length, hol]
              have hfirst : (Builtin.firstCells i.size len (.slice (some ⟨Bk, O + d * i.size, none⟩) len (K - d))).run P w.drew = .ok ys.toArray w.drew := by
                have := load_range (P := P) (w := w.drew) (show w.drew.rangeAt _ _ ys from y2)
                rw [hyl] at this
                exact this
              have hbb := Nat.mul_le_mul_right i.bytes (nextcap_le hg)
              have hrun := run_append_grow_src w sT xT ty e i z hu hi hz (some ⟨Bk, O + d * i.size, none⟩) len (K - d) ys hfirst vx n xs x2 hg (by have : len + n ≤ 4294967296 := c2; omega) (Nat.le_trans hbb c1)
              have hC := le_cap w (len + n) (K - d) e
              obtain ⟨H', K'⟩ := new_row (H.kill id) hn0 (y1.append x1) (need := len + n) (by rw [List.length_append, hol, hnl, Nat.add_mul]) hC hzs (e := e) (pl := plOf e d pl) (fun t ht => ⟨(plOf_row ht), by omega⟩)
              exact ⟨_, _, _, hrun, Ext.one _, ⟨w.heap.size, 0, _, updR_same _ _ _, by simp⟩, H'.congr e1, K'⟩
          · cases hk
    · cases hk
  · split at hk
    · rename_i hn
      have hn := beq_iff.1 hn
      refine ⟨_, h, nx, hk, Keeps.refl _ _ _, fun p r w vs vx ty H hf hs hx => ?_⟩
      obtain ⟨xs, x1, x2⟩ := hsrc p lim r w vx H hx
      obtain ⟨a, c, rfl⟩ := hs
      exact Res.pure (run_append_nothing w sT xT ty e i hu hi _ 0 c (Nat.zero_le _) vx (src_nil x2 hn)) ⟨a, c, rfl⟩ H
    · cases hk
  · cases hk
theorem appendK_ok {v : AV} {lim : Nat} {h : T} {nx : Nat} {sT xT : TypeId} {s x : AV} {k : KV} (hl : lim ≤ nx) (hk : appendK P lim h nx sT xT s x k = .ok v) :
    ∃ a h' nx', k a h' nx' = .ok v ∧ Keeps lim h nx h' nx' ∧ ∀ p r w vs vx ty, HR p lim r h.get w → Free nx nx' r → VR r s vs → VR r x vx → Res p lim r nx nx' h' a w ((Builtin.append_ #[sT, xT] ty #[vs, vx]).run P w) := by
  unfold appendK at hk
  split at hk
  · rename_i e hu
    split at hk
    · rename_i i hi
      split at hk
      · cases hk
      · rename_i hz
        have hz : ∃ z, i.zero = some z ∧ z.cells.size = i.size ∧ 0 < i.size := by
          split at hz
          · rename_i z hz'
            simp only [Bool.and_eq_true] at hz
            exact ⟨z, hz', beq_iff.1 hz.1, blt_iff.1 hz.2⟩
          · cases hz
        obtain ⟨z, hz, hzs, hsz⟩ := hz
        split at hk
        · rename_i e' he'
          rw [fN_eq] at hk
          exact appX_ok hl hu hi hz hzs hsz (.inl ⟨_, he'⟩) hk
        · rename_i he'
          rw [fN_eq] at hk
          exact appX_ok hl hu hi hz hzs hsz (.inr he') hk
        · cases hk
    · cases hk
  · cases hk
end Clu
end Go.Proofs.Ythghohgjedjpbaa
