/-
  Runs of closed calls by the kernel: stores, slices, indexes, fields, parts.
-/
import Derived.Test.YthghohgjedjpbaaCluH
namespace Go.Proofs.Ythghohgjedjpbaa
namespace Clu
open Go.RowKit
set_option linter.unusedVariables false
variable {P : Program}

theorem HR.congr {p : Nat → Prop} {lim : Nat} {r : Rn} {h h' : Nat → Option Blk} {w : World} (H : HR p lim r h w) (e : ∀ j, h' j = h j) : HR p lim r h' w := by
  have : h' = h := funext e
  rw [this]; exact H
theorem storeK_ok {v : AV} {lim : Nat} {h : T} {id off : Nat} {vs : List AV} {k : T → Out} (hk : storeK lim h id off vs k = .ok v) :
    ∃ h', k h' = .ok v ∧ KeepS lim h h' ∧ ∀ p r w xs Bk O K, HR p lim r h.get w → VRs r vs xs → r id = some (Bk, O, K) →
      ∃ w', (storeCells ⟨Bk, O + off, none⟩ xs).run P w = .ok () w' ∧ HR p lim r h'.get w' ∧ Kp p w w' := by
  unfold storeK at hk
  split at hk
  · split at hk
    · rename_i hn
      have hn : vs = [] := List.eq_nil_of_length_eq_zero (beq_iff.1 hn)
      subst hn
      refine ⟨h, hk, KeepS.refl _ _, fun p r w xs Bk O K H hx hr => ?_⟩
      cases hx
      exact ⟨w, rfl, H, Kp.refl _ _⟩
    · cases hk
  · rename_i hc
    simp only [Bool.and_eq_true] at hc
    obtain ⟨hl, hm⟩ := hc
    have hl : lim ≤ id := Nat.le_of_ble_eq_true hl
    split at hk
    · cases hk
    · rename_i hone
      split at hk
      · rename_i cs fz osz pl hb
        have hfz : fz ≤ off := by
          unfold mayStore at hm
          rw [hb] at hm
          exact Nat.le_of_ble_eq_true hm
        have h1 : off + vs.length ≤ cs.length := by
          unfold putK at hk
          cases hb2 : Nat.ble (Nat.add off vs.length) cs.length with
          | false => rw [hb2] at hk; cases hk
          | true => exact ble_iff.1 hb2
        obtain ⟨_, h2⟩ := putK_ok hk
        obtain ⟨h', h3, h4⟩ := Tr.setK_ok h2
        refine ⟨h', h3, KeepS.upd hb hl h4 (ro_over h1 hfz), fun p r w xs Bk O K H hx hr => ?_⟩
        · obtain ⟨hth, H', hbel⟩ := H.put hb hl hr hx h1 hfz
          have hx1 : ∀ y ∈ xs, y.oneCell' = true := fun y hy => by
            obtain ⟨j, hj⟩ := List.getElem?_of_mem hy
            have hlt := (List.getElem?_eq_some_iff.1 hj).1
            rw [hx.length] at hlt
            obtain ⟨z, z1, z2⟩ := hx.get (List.getElem?_eq_getElem hlt)
            rw [hj] at z1; cases z1
            exact z2.one (allOne_spec hone _ (List.getElem_mem hlt))
          have := run_storeCells_cells (P := P) Bk (O + off) xs 0 w (fun j hj => (hth j hj).1) (fun j hj => (hth j hj).2) hx1
          exact ⟨_, this, H'.congr h4, hbel⟩
      · cases hk
/-- a variable is written -/
theorem storeVar_ok {t : TypeId} {i : TypeInfo} (hi : P.info? t = some i) {x : Value} (hx : x.cells.size = i.size) {a : Addr} {w w' : World} (hs : (storeCells a x.cells.toList).run P w = .ok () w') : (Instr.storeAt t (.pointer (some a)) x).run P w = .ok () w' := by
  simp [Instr.storeAt, Instr.sureAddr, storeVar, sizeOf, typeInfo, hi, hx, hs]

/-! slices -/
def OR (r : Rn) : Option AV → Option Value → Prop
  | none, none => True
  | some a, some x => VR r a x
  | _, _ => False
theorem bndK_ok {v : AV} {x : AV} {y : Nat} {k : Nat → Out} (hk : bndK x y k = .ok v) : ∃ (n : Nat) (kd : IntKind), x = .i kd (n : Int) ∧ n ≤ y ∧ k n = .ok v := by
  unfold bndK at hk
  split at hk
  · rename_i kd z
    obtain ⟨n, hz, hq⟩ := natK_ok (fun h => by cases h) hk
    subst hz
    cases h : Nat.ble n y with
    | true => rw [h] at hq; exact ⟨n, kd, rfl, Nat.le_of_ble_eq_true h, hq⟩
    | false => rw [h] at hq; cases hq
  · cases hk
theorem run_bound {w : World} {kd : IntKind} {n y : Nat} {c : BoundsCode} (h : n ≤ y) : (Instr.sliceBound (.int kd (n : Int)) y c).run P w = .ok n w := by
  have : (0 : Int) ≤ (n : Int) ∧ (n : Int) ≤ (y : Int) := by omega
  simp [Instr.sliceBound, asIntOf, this]
theorem bndsK_ok {v : AV} {len cap : Nat} {lo hi : Option AV} {k : Nat → Nat → Out} (hle : len ≤ cap) (hk : bndsK len cap lo hi k = .ok v) :
    ∃ l u, k l u = .ok v ∧ l ≤ u ∧ u ≤ cap ∧ ∀ isS cap' r vlo vhi w, cap ≤ cap' → OR r lo vlo → OR r hi vhi → (Instr.sliceBounds isS len cap' vlo vhi none).run P w = .ok (l, u, cap') w := by
  unfold bndsK at hk
  split at hk
  · obtain ⟨u, kd, rfl, hu, hk⟩ := bndK_ok hk
    split at hk
    · obtain ⟨l, kd', rfl, hl, hk⟩ := bndK_ok hk
      refine ⟨l, u, hk, hl, hu, fun isS cap' r vlo vhi w hc h1 h2 => ?_⟩
      cases vlo <;> cases vhi <;> simp only [OR] at h1 h2
      cases h1; cases h2
      simp [Instr.sliceBounds, run_bound (Nat.le_trans hu hc), run_bound hl]
    · refine ⟨0, u, hk, Nat.zero_le _, hu, fun isS cap' r vlo vhi w hc h1 h2 => ?_⟩
      cases vlo <;> cases vhi <;> simp only [OR] at h1 h2
      cases h2
      simp [Instr.sliceBounds, run_bound (Nat.le_trans hu hc)]
  · split at hk
    · obtain ⟨l, kd', rfl, hl, hk⟩ := bndK_ok hk
      refine ⟨l, len, hk, hl, hle, fun isS cap' r vlo vhi w hc h1 h2 => ?_⟩
      cases vlo <;> cases vhi <;> simp only [OR] at h1 h2
      cases h1
      simp [Instr.sliceBounds, run_bound hl]
    · refine ⟨0, len, hk, Nat.zero_le _, hle, fun isS cap' r vlo vhi w hc h1 h2 => ?_⟩
      cases vlo <;> cases vhi <;> simp only [OR] at h1 h2
      simp [Instr.sliceBounds]
theorem add_mid (b o j : Nat) : (⟨b, o, none⟩ : Addr).add j = ⟨b, o + j, none⟩ := Addr.add_mid b o j

/-- a part of an array that lies somewhere -/
theorem slice_arr {r : Rn} {id off l u n sz : Nat} {Bk O K : Nat} (hr : r id = some (Bk, O, K)) :
    ∃ a, (if n = l then a = AV.sl id off (u - l) 0 else a = AV.sl id (off + l * sz) (u - l) (n - l)) ∧ VR r a (.slice (some (if n = l then (⟨Bk, O + off, none⟩ : Addr) else (⟨Bk, O + off, none⟩ : Addr).add (l * sz))) (u - l) (n - l)) := by
  by_cases h : n = l
  · refine ⟨.sl id off (u - l) 0, by simp [h], ?_⟩
    rw [if_pos h]
    exact ⟨Bk, O, K, hr, by simp [h]⟩
  · refine ⟨.sl id (off + l * sz) (u - l) (n - l), by simp [h], ?_⟩
    rw [if_neg h, add_mid]
    exact ⟨Bk, O, K, hr, by rw [Nat.add_assoc]⟩
theorem bytes_extract (l : List Nat) (a b : Nat) (h : a ≤ b) (hb : b ≤ l.length) : (bytes l).extract a b = bytes ((l.drop a).take (b - a)) := by
  apply ByteArray.ext
  rw [ByteArray.data_extract]
  simp only [bytes]
  rw [List.extract_toArray, List.extract_eq_take_drop, List.map_take, List.map_drop]

set_option maxHeartbeats 1000000 in
theorem sliceK_ok {v : AV} {h : T} {t : TypeId} {x : AV} {lo hi : Option AV} {k : KO} (hk : sliceK P h t x lo hi k = .ok v) :
    ∃ a, k a = .ok v ∧ ∀ p lim r w vx vlo vhi, HR p lim r h.get w → VR r x vx → OR r lo vlo → OR r hi vhi → ∃ z, (Instr.sliceAt t vx vlo vhi none).run P w = .ok z w ∧ VR r a z := by
  unfold sliceK at hk
  split at hk
  · -- array
    rename_i n e hu
    split at hk
    · rename_i id off
      obtain ⟨i, hi', hk, hsz⟩ := sizeK_ok hk
      obtain ⟨l, u, hk, hlu, hun, hb⟩ := bndsK_ok (P := P) (Nat.le_refl n) hk
      have main : ∀ a, (if n = l then a = AV.sl id off (u - l) 0 else a = AV.sl id (off + l * i.size) (u - l) (n - l)) → ∀ p lim r w vx vlo vhi, HR p lim r h.get w → VR r (.p id off) vx → OR r lo vlo → OR r hi vhi → ∃ z, (Instr.sliceAt t vx vlo vhi none).run P w = .ok z w ∧ VR r a z := fun a ha p lim r w vx vlo vhi H hx h1 h2 => by
        obtain ⟨Bk, O, K, hr, rfl⟩ := hx
        obtain ⟨a', ha', hv⟩ := slice_arr (r := r) (id := id) (off := off) (l := l) (u := u) (n := n) (sz := i.size) hr
        have : a = a' := by by_cases hnl : n = l <;> simp [hnl] at ha ha' <;> rw [ha, ha']
        subst this
        refine ⟨_, ?_, hv⟩
        have := hb false n r vlo vhi w (Nat.le_refl _) h1 h2
        simp [Instr.sliceAt, run_underlying hu, Instr.sureAddr, this, hsz]
      split at hk
      · rename_i hnl
        have hnl := beq_iff.1 hnl
        rw [fN_eq] at hk
        exact ⟨_, hk, main _ (by rw [if_pos hnl]; rfl)⟩
      · rename_i hnl
        have hnl := beq_ff.1 hnl
        simp only [fN_eq] at hk
        exact ⟨_, hk, main _ (by rw [if_neg hnl]; rfl)⟩
    · cases hk
  · -- string
    rename_i hu
    split at hk
    · rename_i n N
      obtain ⟨l, u, hk, hlu, hun, hb⟩ := bndsK_ok (P := P) (Nat.le_refl n) hk
      rw [fN_eq, fN_eq] at hk
      refine ⟨_, hk, fun p lim r w vx vlo vhi H hx h3 h4 => ?_⟩
      cases hx
      have := hb false n r vlo vhi w (Nat.le_refl _) h3 h4
      refine ⟨_, ?_, rfl⟩
      have e : bytes (lst (u.sub l) (maskN (u.sub l) (N.shiftRight (Nat.mul 8 l)))) = (bytes (lst n N)).extract l u := by
        rw [bytes_extract _ l u hlu (by rw [lst_length]; exact hun), ← lst_slice hlu hun]; rfl
      rw [e]
      simp [Instr.sliceAt, run_underlying hu, Instr.slice, bytes_size, lst_length, this]
    · cases hk
  · -- slice
    rename_i e hu
    split at hk
    · obtain ⟨i, hi', hk, hsz⟩ := sizeK_ok hk
      obtain ⟨l, u, hk, hlu, hun, hb⟩ := bndsK_ok (P := P) (Nat.le_refl 0) hk
      refine ⟨_, hk, fun p lim r w vx vlo vhi H hx h3 h4 => ?_⟩
      cases hx
      have := hb true 0 r vlo vhi w (Nat.le_refl _) h3 h4
      obtain rfl : u = 0 := by omega
      obtain rfl : l = 0 := by omega
      exact ⟨_, by simp [Instr.sliceAt, run_underlying hu, Instr.slice, this, hsz], rfl⟩
    · rename_i id off len cap
      obtain ⟨i, hi', hk, hsz⟩ := sizeK_ok hk
      split at hk
      · cases hk
      · rename_i hlc
        have hlc := ble_iff.1 hlc
        obtain ⟨l, u, hk, hlu, hun, hb⟩ := bndsK_ok (P := P) hlc hk
        have main : ∀ a, (if cap = l then a = AV.sl id off (u - l) 0 else a = AV.sl id (off + l * i.size) (u - l) (cap - l)) → ∀ p lim r w vx vlo vhi, HR p lim r h.get w → VR r (.sl id off len cap) vx → OR r lo vlo → OR r hi vhi → ∃ z, (Instr.sliceAt t vx vlo vhi none).run P w = .ok z w ∧ VR r a z := fun a ha p lim r w vx vlo vhi H hx h1 h2 => by
          obtain ⟨Bk, O, K, hr, rfl⟩ := hx
          obtain ⟨a', ha', hv⟩ := slice_arr (r := r) (id := id) (off := off) (l := l) (u := u) (n := cap) (sz := i.size) hr
          have : a = a' := by by_cases hnl : cap = l <;> simp [hnl] at ha ha' <;> rw [ha, ha']
          subst this
          refine ⟨_, ?_, hv⟩
          have := hb true cap r vlo vhi w (Nat.le_refl _) h1 h2
          by_cases hnl : cap = l
          · subst hnl; simp [Instr.sliceAt, run_underlying hu, Instr.slice, this, hsz]
          · simp [Instr.sliceAt, run_underlying hu, Instr.slice, this, hsz, hnl]
        split at hk
        · rename_i hnl
          have hnl := beq_iff.1 hnl
          rw [fN_eq] at hk
          exact ⟨_, hk, main _ (by rw [if_pos hnl]; rfl)⟩
        · rename_i hnl
          have hnl := beq_ff.1 hnl
          simp only [fN_eq] at hk
          exact ⟨_, hk, main _ (by rw [if_neg hnl]; rfl)⟩
    · rename_i id d sz len
      obtain ⟨i, hi', hk, hsz⟩ := sizeK_ok hk
      split at hk
      · cases hk
      · rename_i hse
        have hse := beq_iff.1 hse
        subst hse
        obtain ⟨l, u, hk, hlu, hun, hb⟩ := bndsK_ok (P := P) (Nat.le_refl len) hk
        split at hk
        · rename_i cs fz osz pl hg
          split at hk
          · cases hk
          · rename_i ho
            have ho := beq_iff.1 ho
            subst ho
            rw [lenK_eq, Nat.zero_add] at hk
            split at hk
            · cases hk
            · rename_i hc
              simp only [Bool.and_eq_true] at hc
              obtain ⟨hc0, hc1⟩ := hc
              have hc0 := blt_iff.1 hc0
              have hc1 : (d + len) * i.size ≤ cs.length := ble_iff.1 hc1
              have spare : ∀ p lim r w Bk O K, HR p lim r h.get w → r id = some (Bk, O, K) → cs.length ≤ i.size * K ∧ d + len ≤ K := fun p lim r w Bk O K H hr => by
                obtain ⟨_, _, _, e1, _, m⟩ := H.blk id _ hg
                rw [hr] at e1; cases e1
                have m4 := m.2.2.2.1 (by omega)
                refine ⟨m4, ?_⟩
                have : (d + len) * i.size ≤ K * i.size := by rw [Nat.mul_comm K]; exact Nat.le_trans hc1 m4
                exact Nat.le_of_mul_le_mul_right this hc0
              split at hk
              · rename_i hl0
                refine ⟨_, hk, fun p lim r w vx vlo vhi H hx h1 h2 => ?_⟩
                obtain ⟨Bk, O, K, hr, rfl⟩ := hx
                obtain ⟨m1, m2⟩ := spare p lim r w Bk O K H hr
                have := hb true (K - d) r vlo vhi w (by omega) h1 h2
                refine ⟨.slice (some ⟨Bk, O + d * i.size, none⟩) u (K - d), ?_, ⟨Bk, O, K, hr, rfl⟩⟩
                generalize K - d = C at this ⊢
                cases C with
                | zero => simp [Instr.sliceAt, run_underlying hu, Instr.slice, this, hsz]
                | succ C => simp [Instr.sliceAt, run_underlying hu, Instr.slice, this, hsz, Addr.add]
              · rename_i hl0 l'
                split at hk
                · split at hk
                  · rename_i hul
                    have hul := beq_iff.1 hul
                    subst hul
                    refine ⟨_, hk, fun p lim r w vx vlo vhi H hx h1 h2 => ?_⟩
                    obtain ⟨Bk, O, K, hr, rfl⟩ := hx
                    obtain ⟨m1, m2⟩ := spare p lim r w Bk O K H hr
                    have := hb true (K - d) r vlo vhi w (by omega) h1 h2
                    generalize hCe : K - d = C at this ⊢
                    by_cases hne : C = l' + 1
                    · refine ⟨.slice (some ⟨Bk, O + d * i.size, none⟩) 0 (C - (l' + 1)), ?_, _, _, rfl⟩
                      subst hne
                      simp [Instr.sliceAt, run_underlying hu, Instr.slice, this, hsz]
                    · refine ⟨.slice (some (Addr.add ⟨Bk, O + d * i.size, none⟩ ((l' + 1) * i.size))) 0 (C - (l' + 1)), ?_, _, _, rfl⟩
                      simp [Instr.sliceAt, run_underlying hu, Instr.slice, this, hsz, hne]
                  · cases hk
                · rename_i hlt
                  have hlt : (d + (l' + 1)) * i.size < cs.length := blt_iff.1 hlt
                  simp only [fN_eq] at hk
                  refine ⟨_, hk, fun p lim r w vx vlo vhi H hx h1 h2 => ?_⟩
                  obtain ⟨Bk, O, K, hr, rfl⟩ := hx
                  obtain ⟨m1, m2⟩ := spare p lim r w Bk O K H hr
                  have := hb true (K - d) r vlo vhi w (by omega) h1 h2
                  have hlk : d + (l' + 1) < K := by
                    have : (d + (l' + 1)) * i.size < K * i.size := by rw [Nat.mul_comm K]; exact Nat.lt_of_lt_of_le hlt m1
                    exact Nat.lt_of_mul_lt_mul_right this
                  have hne : ¬ (K - d = l' + 1) := by omega
                  refine ⟨.slice (some ⟨Bk, O + d * i.size + (l' + 1) * i.size, none⟩) (u - (l' + 1)) (K - d - (l' + 1)), ?_, ⟨Bk, O, K, hr, ?_⟩⟩
                  · simp [Instr.sliceAt, run_underlying hu, Instr.slice, this, hsz, hne, add_mid]
                  · have e1 : O + d * i.size + (l' + 1) * i.size = O + (d + (l' + 1)) * i.size := by rw [Nat.add_mul d (l' + 1), Nat.add_assoc]
                    have e2 : K - d - (l' + 1) = K - (d + (l' + 1)) := by omega
                    rw [e1, e2]; rfl
        · cases hk
    · obtain ⟨i, hi', hk, hsz⟩ := sizeK_ok hk
      obtain ⟨l, u, hk, hlu, hun, hb⟩ := bndsK_ok (P := P) (Nat.le_refl 0) hk
      refine ⟨_, hk, fun p lim r w vx vlo vhi H hx h3 h4 => ?_⟩
      obtain ⟨a, c, rfl⟩ := hx
      have := hb true c r vlo vhi w (Nat.zero_le _) h3 h4
      obtain rfl : u = 0 := by omega
      obtain rfl : l = 0 := by omega
      cases c with
      | zero => exact ⟨.slice (some a) 0 0, by simp [Instr.sliceAt, run_underlying hu, Instr.slice, this, hsz], _, _, rfl⟩
      | succ c => exact ⟨.slice (some (a.add (0 * i.size))) 0 (c + 1), by simp [Instr.sliceAt, run_underlying hu, Instr.slice, this, hsz], _, _, rfl⟩
    · cases hk
  · -- a pointer to an array
    rename_i arr hu
    split at hk
    · rename_i n e hua
      split at hk
      · rename_i id off
        obtain ⟨i, hi', hk, hsz⟩ := sizeK_ok hk
        obtain ⟨l, u, hk, hlu, hun, hb⟩ := bndsK_ok (P := P) (Nat.le_refl n) hk
        have main : ∀ a, (if n = l then a = AV.sl id off (u - l) 0 else a = AV.sl id (off + l * i.size) (u - l) (n - l)) → ∀ p lim r w vx vlo vhi, HR p lim r h.get w → VR r (.p id off) vx → OR r lo vlo → OR r hi vhi → ∃ z, (Instr.sliceAt t vx vlo vhi none).run P w = .ok z w ∧ VR r a z := fun a ha p lim r w vx vlo vhi H hx h1 h2 => by
          obtain ⟨Bk, O, K, hr, rfl⟩ := hx
          obtain ⟨a', ha', hv⟩ := slice_arr (r := r) (id := id) (off := off) (l := l) (u := u) (n := n) (sz := i.size) hr
          have : a = a' := by by_cases hnl : n = l <;> simp [hnl] at ha ha' <;> rw [ha, ha']
          subst this
          refine ⟨_, ?_, hv⟩
          have := hb false n r vlo vhi w (Nat.le_refl _) h1 h2
          simp [Instr.sliceAt, run_underlying hu, run_underlying hua, Instr.slice, asAddr, this, hsz]
        split at hk
        · rename_i hnl
          have hnl := beq_iff.1 hnl
          rw [fN_eq] at hk
          exact ⟨_, hk, main _ (by rw [if_pos hnl]; rfl)⟩
        · rename_i hnl
          have hnl := beq_ff.1 hnl
          simp only [fN_eq] at hk
          exact ⟨_, hk, main _ (by rw [if_neg hnl]; rfl)⟩
      · cases hk
    · cases hk
  · cases hk
theorem slice3K_ok {v : AV} {t : TypeId} {x mx : AV} {lo hi : Option AV} {k : KO} (hk : slice3K P t x lo hi mx k = .ok v) :
    ∃ a, k a = .ok v ∧ ∀ r w vx vlo vhi vmx, VR r x vx → OR r lo vlo → OR r hi vhi → VR r mx vmx → ∃ z, (Instr.sliceAt t vx vlo vhi (some vmx)).run P w = .ok z w ∧ VR r a z := by
  unfold slice3K at hk
  split at hk
  · rename_i e id off len cap hi hu
    obtain ⟨i, hi', hk, hsz⟩ := sizeK_ok hk
    obtain ⟨m, kd, rfl, hm, hk⟩ := bndK_ok hk
    obtain ⟨u, kd', rfl, hu', hk⟩ := bndK_ok hk
    have main : ∀ (l : Nat) (a : AV) (vl : Option Value), (if m = l then a = AV.sl id off (u - l) 0 else a = AV.sl id (off + l * i.size) (u - l) (m - l)) → (∀ w, (Instr.sliceBounds true len cap vl (some (.int kd' (u : Int))) (some (.int kd (m : Int)))).run P w = .ok (l, u, m) w) → ∀ r w vx, VR r (.sl id off len cap) vx → ∃ z, (Instr.sliceAt t vx vl (some (.int kd' (u : Int))) (some (.int kd (m : Int)))).run P w = .ok z w ∧ VR r a z := fun l a vl ha hb r w vx hx => by
      obtain ⟨Bk, O, K, hr, rfl⟩ := hx
      obtain ⟨a', ha', hv⟩ := slice_arr (r := r) (id := id) (off := off) (l := l) (u := u) (n := m) (sz := i.size) hr
      have : a = a' := by by_cases hnl : m = l <;> simp [hnl] at ha ha' <;> rw [ha, ha']
      subst this
      refine ⟨_, ?_, hv⟩
      have := hb w
      by_cases hnl : m = l
      · subst hnl; simp [Instr.sliceAt, run_underlying hu, Instr.slice, this, hsz]
      · simp [Instr.sliceAt, run_underlying hu, Instr.slice, this, hsz, hnl]
    split at hk
    · obtain ⟨l, kl, rfl, hl, hk⟩ := bndK_ok hk
      have hb : ∀ w, (Instr.sliceBounds true len cap (some (.int kl (l : Int))) (some (.int kd' (u : Int))) (some (.int kd (m : Int)))).run P w = .ok (l, u, m) w := fun w => by
        simp [Instr.sliceBounds, run_bound hm, run_bound hu', run_bound hl]
      split at hk
      · rename_i hnl
        have hnl := beq_iff.1 hnl
        rw [fN_eq] at hk
        refine ⟨_, hk, fun r w vx vlo vhi vmx hx h1 h2 h3 => ?_⟩
        cases vlo <;> cases vhi <;> simp only [OR] at h1 h2
        cases h1; cases h2; cases h3
        exact main l _ _ (by rw [if_pos hnl]; rfl) hb r w vx hx
      · rename_i hnl
        have hnl := beq_ff.1 hnl
        simp only [fN_eq] at hk
        refine ⟨_, hk, fun r w vx vlo vhi vmx hx h1 h2 h3 => ?_⟩
        cases vlo <;> cases vhi <;> simp only [OR] at h1 h2
        cases h1; cases h2; cases h3
        exact main l _ _ (by rw [if_neg hnl]; rfl) hb r w vx hx
    · refine ⟨_, hk, fun r w vx vlo vhi vmx hx h1 h2 h3 => ?_⟩
      cases vlo <;> cases vhi <;> simp only [OR] at h1 h2
      cases h2; cases h3
      refine main 0 _ _ ?_ (fun w => by simp [Instr.sliceBounds, run_bound hm, run_bound hu']) r w vx hx
      by_cases h0 : m = 0
      · subst h0; simp; 
      · simp [h0]
  · cases hk
end Clu
end Go.Proofs.Ythghohgjedjpbaa
