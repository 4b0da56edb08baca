/-
  Runs of closed calls by the kernel: equations and operators.
-/
import Derived.Test.YthghohgjedjpbaaCluF
import Derived.ChangeKeysEq
namespace Go.Proofs.Ythghohgjedjpbaa
namespace Clu
open Go.RowKit
set_option linter.unusedVariables false
variable {P : Program}

theorem run_same_one {w : World} {B a b : Nat} : (sameAddr ⟨B, a, none⟩ ⟨B, b, none⟩).run P w = .ok (a == b) w := by
  simp only [sameAddr, beq_self_eq_true, if_true, Sem.run_pure]
  congr 1
  rw [Bool.eq_iff_iff]
  simp
theorem run_same_two {w : World} {B C a b : Nat} (hne : B ≠ C) (f1 : ∀ o, w.frozen? ⟨B, o, none⟩ = false) (f2 : ∀ o, w.frozen? ⟨C, o, none⟩ = false) (s1 : (w.shape? B).isSome = true) (s2 : (w.shape? C).isSome = true) :
    (sameAddr ⟨B, a, none⟩ ⟨C, b, none⟩).run P w = .ok false w := by
  obtain ⟨x1, e1⟩ := Option.isSome_iff_exists.1 s1
  obtain ⟨x2, e2⟩ := Option.isSome_iff_exists.1 s2
  have hb : (B == C) = false := by simpa using hne
  simp [sameAddr, hb, f1, f2, noView, viewAt, e1, e2, mayBeOne, stringish]

theorem run_same_far {w : World} {B C a b : Nat} (hne : (⟨B, a, none⟩ : Addr) ≠ ⟨C, b, none⟩) (f1 : ∀ o, w.frozen? ⟨B, o, none⟩ = false) (f2 : ∀ o, w.frozen? ⟨C, o, none⟩ = false) (s1 : (w.shape? B).isSome = true) (s2 : (w.shape? C).isSome = true) :
    (sameAddr ⟨B, a, none⟩ ⟨C, b, none⟩).run P w = .ok false w := by
  by_cases hB : B = C
  · subst hB
    rw [run_same_one]
    congr 1
    rw [beq_eq_false_iff_ne]
    exact fun e => hne (by rw [e])
  · exact run_same_two hB f1 f2 s1 s2
section eqs
variable {t : TypeId} {D : Nat} {w : World}
theorem q_p00 {e : TypeId} (hu : P.underlying t = some (.pointer e)) : (Op.equalIn (D + 1) t (.pointer none) (.pointer none)).run P w = .ok true w := by simp [Op.equalIn, run_underlying hu]
theorem q_p01 {e : TypeId} (hu : P.underlying t = some (.pointer e)) (a : Addr) : (Op.equalIn (D + 1) t (.pointer none) (.pointer (some a))).run P w = .ok false w := by simp [Op.equalIn, run_underlying hu]
theorem q_p10 {e : TypeId} (hu : P.underlying t = some (.pointer e)) (a : Addr) : (Op.equalIn (D + 1) t (.pointer (some a)) (.pointer none)).run P w = .ok false w := by simp [Op.equalIn, run_underlying hu]
theorem q_p11 {e : TypeId} (hu : P.underlying t = some (.pointer e)) (a b : Addr) {n : Nat} (hn : n ≠ 0) (hs : ∀ w, (sizeOf e).run P w = .ok n w) : (Op.equalIn (D + 1) t (.pointer (some a)) (.pointer (some b))).run P w = (sameAddr a b).run P w := by simp [Op.equalIn, run_underlying hu, hs, hn]
theorem q_i00 {ms : Array (String × TypeId)} (hu : P.underlying t = some (.interface ms)) : (Op.equalIn (D + 1) t .nilIface .nilIface).run P w = .ok true w := by simp [Op.equalIn, run_underlying hu]
theorem q_i01 {ms : Array (String × TypeId)} (hu : P.underlying t = some (.interface ms)) (u : TypeId) (x : Value) : (Op.equalIn (D + 1) t .nilIface (.iface u x)).run P w = .ok false w := by simp [Op.equalIn, run_underlying hu]
theorem q_i10 {ms : Array (String × TypeId)} (hu : P.underlying t = some (.interface ms)) (u : TypeId) (x : Value) : (Op.equalIn (D + 1) t (.iface u x) .nilIface).run P w = .ok false w := by simp [Op.equalIn, run_underlying hu]
theorem q_ine {ms : Array (String × TypeId)} (hu : P.underlying t = some (.interface ms)) (u v : TypeId) (x y : Value) (h : u ≠ v) : (Op.equalIn (D + 1) t (.iface u x) (.iface v y)).run P w = .ok false w := by simp [Op.equalIn, run_underlying hu, h]
theorem q_ieq {ms : Array (String × TypeId)} (hu : P.underlying t = some (.interface ms)) (u : TypeId) (x y : Value) {i : TypeInfo} (hi : P.info? u = some i) (hc : i.comparable = true) : (Op.equalIn (D + 1) t (.iface u x) (.iface u y)).run P w = (Op.equalIn D u x y).run P w := by simp [Op.equalIn, run_underlying hu, typeInfo, hi, hc]
theorem q_s00 {e : TypeId} (hu : P.underlying t = some (.slice e)) (l c l' c' : Nat) : (Op.equalIn (D + 1) t (.slice none l c) (.slice none l' c')).run P w = .ok true w := by simp [Op.equalIn, run_underlying hu]
theorem q_s01 {e : TypeId} (hu : P.underlying t = some (.slice e)) (a : Addr) (l c l' c' : Nat) : (Op.equalIn (D + 1) t (.slice none l c) (.slice (some a) l' c')).run P w = .ok false w := by simp [Op.equalIn, run_underlying hu]
theorem q_s10 {e : TypeId} (hu : P.underlying t = some (.slice e)) (a : Addr) (l c l' c' : Nat) : (Op.equalIn (D + 1) t (.slice (some a) l c) (.slice none l' c')).run P w = .ok false w := by simp [Op.equalIn, run_underlying hu]
theorem q_m00 {k e : TypeId} (hu : P.underlying t = some (.map k e)) : (Op.equalIn (D + 1) t (.map none) (.map none)).run P w = .ok true w := by simp [Op.equalIn, run_underlying hu]
theorem q_m01 {k e : TypeId} (hu : P.underlying t = some (.map k e)) (a : Nat) : (Op.equalIn (D + 1) t (.map none) (.map (some a))).run P w = .ok false w := by simp [Op.equalIn, run_underlying hu]
theorem q_m10 {k e : TypeId} (hu : P.underlying t = some (.map k e)) (a : Nat) : (Op.equalIn (D + 1) t (.map (some a)) (.map none)).run P w = .ok false w := by simp [Op.equalIn, run_underlying hu]
theorem q_f00 {k e : Array TypeId} {b : Bool} (hu : P.underlying t = some (.func k e b)) : (Op.equalIn (D + 1) t .nilFunc .nilFunc).run P w = .ok true w := by simp [Op.equalIn, run_underlying hu]
theorem q_f01 {k e : Array TypeId} {b : Bool} (hu : P.underlying t = some (.func k e b)) (f : Fn) (x y : Array Value) : (Op.equalIn (D + 1) t .nilFunc (.func f x y)).run P w = .ok false w := by simp [Op.equalIn, run_underlying hu]
theorem q_f10 {k e : Array TypeId} {b : Bool} (hu : P.underlying t = some (.func k e b)) (f : Fn) (x y : Array Value) : (Op.equalIn (D + 1) t (.func f x y) .nilFunc).run P w = .ok false w := by simp [Op.equalIn, run_underlying hu]
end eqs

set_option maxHeartbeats 1000000 in
mutual
theorem eqK_ok {v : AV} {h : T} : ∀ {d : Nat} {t : TypeId} {x y : AV} {k : Bool → Out}, eqK P h d t x y k = .ok v → ∃ b, k b = .ok v ∧ ∀ D, d ≤ D → ∀ p lim r w vx vy, HR p lim r h.get w → VR r x vx → VR r y vy → (Op.equalIn D t vx vy).run P w = .ok b w
  | 0, t, x, y, k, hk => by simp [eqK] at hk
  | d + 1, t, x, y, k, hk => by
    simp only [eqK] at hk
    split at hk
    · -- bool
      rename_i hu
      split at hk
      · rename_i a b
        refine ⟨a == b, ?_, fun D hD p lim r w vx vy H hx hy => ?_⟩
        · exact hk
        · cases hx; cases hy
          obtain ⟨D, rfl⟩ : ∃ n, D = n + 1 := ⟨D - 1, by omega⟩
          exact run_equalIn_bool' w D t a b hu
      · cases hk
    · -- int
      rename_i kk hu
      split at hk
      · rename_i ka a kb b
        split at hk
        · rename_i hkk
          have hkk := of_decide_eq_true hkk
          subst hkk
          rw [fB_eq] at hk
          refine ⟨_, hk, fun D hD p lim r w vx vy H hx hy => ?_⟩
          cases hx; cases hy
          obtain ⟨D, rfl⟩ : ∃ n, D = n + 1 := ⟨D - 1, by omega⟩
          exact run_equalIn_int w D t _ _ a b hu
        · cases hk
      · cases hk
    · -- string
      rename_i hu
      split at hk
      · rename_i a x b y
        rw [fB_eq] at hk
        refine ⟨_, hk, fun D hD p lim r w vx vy H hx hy => ?_⟩
        cases hx; cases hy
        obtain ⟨D, rfl⟩ : ∃ n, D = n + 1 := ⟨D - 1, by omega⟩
        rw [run_equalIn_string w D t _ _ hu, toList_bytes, toList_bytes, eqNs_spec]
      · cases hk
    · -- pointer
      rename_i e hu
      split at hk
      · refine ⟨_, hk, fun D hD p lim r w vx vy H hx hy => ?_⟩
        cases hx; cases hy
        obtain ⟨D, rfl⟩ : ∃ n, D = n + 1 := ⟨D - 1, by omega⟩
        first | exact q_p00 hu | exact q_p01 hu _ | exact q_p10 hu _ | exact q_i00 hu | exact q_i01 hu _ _ | exact q_i10 hu _ _ | exact q_s00 hu _ _ _ _ | exact q_s01 hu _ _ _ _ _ | exact q_s10 hu _ _ _ _ _ | exact q_m00 hu | exact q_m01 hu _ | exact q_m10 hu _ | exact q_f00 hu | exact q_f01 hu _ _ _ | exact q_f10 hu _ _ _
      · refine ⟨_, hk, fun D hD p lim r w vx vy H hx hy => ?_⟩
        obtain ⟨B1, O1, K1, hr1, rfl⟩ := hy
        cases hx
        obtain ⟨D, rfl⟩ : ∃ n, D = n + 1 := ⟨D - 1, by omega⟩
        first | exact q_p00 hu | exact q_p01 hu _ | exact q_p10 hu _ | exact q_i00 hu | exact q_i01 hu _ _ | exact q_i10 hu _ _ | exact q_s00 hu _ _ _ _ | exact q_s01 hu _ _ _ _ _ | exact q_s10 hu _ _ _ _ _ | exact q_m00 hu | exact q_m01 hu _ | exact q_m10 hu _ | exact q_f00 hu | exact q_f01 hu _ _ _ | exact q_f10 hu _ _ _
      · refine ⟨_, hk, fun D hD p lim r w vx vy H hx hy => ?_⟩
        obtain ⟨B1, O1, K1, hr1, rfl⟩ := hx
        cases hy
        obtain ⟨D, rfl⟩ : ∃ n, D = n + 1 := ⟨D - 1, by omega⟩
        first | exact q_p00 hu | exact q_p01 hu _ | exact q_p10 hu _ | exact q_i00 hu | exact q_i01 hu _ _ | exact q_i10 hu _ _ | exact q_s00 hu _ _ _ _ | exact q_s01 hu _ _ _ _ _ | exact q_s10 hu _ _ _ _ _ | exact q_m00 hu | exact q_m01 hu _ | exact q_m10 hu _ | exact q_f00 hu | exact q_f01 hu _ _ _ | exact q_f10 hu _ _ _
      · rename_i i a j b
        split at hk
        · rename_i c1 f1 o1 t1 c2 f2 o2 t2 hi hj
          obtain ⟨inf, hinf, hk2, hsz⟩ := sizeK_ok hk
          clear hk
          split at hk2
          · cases hk2
          · rename_i n hn
            have hcong : ∀ D p lim r w vx vy, HR p lim r h.get w → VR r (.p i a) vx → VR r (.p j b) vy → ∃ B1 O1 K1 B2 O2 K2, r i = some (B1, O1, K1) ∧ r j = some (B2, O2, K2) ∧ (Op.equalIn (D + 1) t vx vy).run P w = (sameAddr ⟨B1, O1 + a, none⟩ ⟨B2, O2 + b, none⟩).run P w := fun D p lim r w vx vy H hx hy => by
              obtain ⟨B1, O1, K1, hr1, rfl⟩ := hx
              obtain ⟨B2, O2, K2, hr2, rfl⟩ := hy
              refine ⟨B1, O1, K1, B2, O2, K2, hr1, hr2, ?_⟩
              exact q_p11 hu _ _ (by omega) hsz
            split at hk2
            · rename_i hij
              have hij := Nat.eq_of_beq_eq_true hij
              subst hij
              rw [fB_eq] at hk2
              refine ⟨_, hk2, fun D hD p lim r w vx vy H hx hy => ?_⟩
              obtain ⟨D, rfl⟩ : ∃ n, D = n + 1 := ⟨D - 1, by omega⟩
              obtain ⟨B1, O1, K1, B2, O2, K2, hr1, hr2, he⟩ := hcong D p lim r w vx vy H hx hy
              rw [hr1] at hr2; cases hr2
              rw [he, run_same_one]
              congr 1
              show (O1 + a == O1 + b) = Nat.beq a b
              rw [Bool.eq_iff_iff]
              simp only [beq_iff_eq, Nat.add_left_cancel_iff]
              exact ⟨fun h => by rw [h]; exact Nat.beq_refl _, Nat.eq_of_beq_eq_true⟩
            · rename_i hij
              refine ⟨_, hk2, fun D hD p lim r w vx vy H hx hy => ?_⟩
              obtain ⟨D, rfl⟩ : ∃ n, D = n + 1 := ⟨D - 1, by omega⟩
              obtain ⟨B1, O1, K1, B2, O2, K2, hr1, hr2, he⟩ := hcong D p lim r w vx vy H hx hy
              have hne : i ≠ j := fun e => by rw [e, Nat.beq_refl] at hij; cases hij
              obtain ⟨_, _, _, e1, _, m1⟩ := H.blk i _ hi
              obtain ⟨_, _, _, e2, _, m2⟩ := H.blk j _ hj
              rw [hr1] at e1; cases e1
              rw [hr2] at e2; cases e2
              have hb : B1 ≠ B2 := fun e => hne (H.inj i j (.c _ _ _ (some (_ + 1))) (.c _ _ _ (some (_ + 1))) _ _ (.inr (.inr ⟨trivial, trivial⟩)) hi hj hr1 hr2 e)
              rw [he, run_same_two hb (m1.2.2.2.2.1 _ rfl).1 (m2.2.2.2.2.1 _ rfl).1 m1.2.2.2.2.2 m2.2.2.2.2.2]
        · rename_i c1 f1 o1 p1 c2 f2 o2 p2 hnot hi hj
          obtain ⟨inf, hinf, hk2, hsz⟩ := sizeK_ok hk
          clear hk
          split at hk2
          · cases hk2
          · rename_i n hn
            have hcong : ∀ D p lim r w vx vy, HR p lim r h.get w → VR r (.p i a) vx → VR r (.p j b) vy → ∃ B1 O1 K1 B2 O2 K2, r i = some (B1, O1, K1) ∧ r j = some (B2, O2, K2) ∧ (Op.equalIn (D + 1) t vx vy).run P w = (sameAddr ⟨B1, O1 + a, none⟩ ⟨B2, O2 + b, none⟩).run P w := fun D p lim r w vx vy H hx hy => by
              obtain ⟨B1, O1, K1, hr1, rfl⟩ := hx
              obtain ⟨B2, O2, K2, hr2, rfl⟩ := hy
              refine ⟨B1, O1, K1, B2, O2, K2, hr1, hr2, ?_⟩
              exact q_p11 hu _ _ (by omega) hsz
            split at hk2
            · rename_i hij
              have hij := Nat.eq_of_beq_eq_true hij
              subst hij
              rw [fB_eq] at hk2
              refine ⟨_, hk2, fun D hD p lim r w vx vy H hx hy => ?_⟩
              obtain ⟨D, rfl⟩ : ∃ n, D = n + 1 := ⟨D - 1, by omega⟩
              obtain ⟨B1, O1, K1, B2, O2, K2, hr1, hr2, he⟩ := hcong D p lim r w vx vy H hx hy
              rw [hr1] at hr2; cases hr2
              rw [he, run_same_one]
              congr 1
              show (O1 + a == O1 + b) = Nat.beq a b
              rw [Bool.eq_iff_iff]
              simp only [beq_iff_eq, Nat.add_left_cancel_iff]
              exact ⟨fun h => by rw [h]; exact Nat.beq_refl _, Nat.eq_of_beq_eq_true⟩
            · rename_i hij
              split at hk2
              · rename_i n1 N1 n2 N2 e1 e2
                split at hk2
                · cases hk2
                · rename_i hes
                  refine ⟨_, hk2, fun D hD p lim r w vx vy H hx hy => ?_⟩
                  obtain ⟨D, rfl⟩ : ∃ n, D = n + 1 := ⟨D - 1, by omega⟩
                  obtain ⟨B1, O1, K1, B2, O2, K2, hr1, hr2, he⟩ := hcong D p lim r w vx vy H hx hy
                  obtain ⟨_, _, _, q1, _, m1⟩ := H.blk i _ hi
                  obtain ⟨_, _, _, q2, _, m2⟩ := H.blk j _ hj
                  rw [hr1] at q1; cases q1
                  rw [hr2] at q2; cases q2
                  obtain ⟨x, x1, x2⟩ := m1.1 a _ e1
                  obtain ⟨y, y1, y2⟩ := m2.1 b _ e2
                  have hne : (⟨B1, O1 + a, none⟩ : Addr) ≠ ⟨B2, O2 + b, none⟩ := fun e => by
                    rw [e] at x1
                    rw [x1] at y1; cases y1
                    have x2 : x = .string (bytes (lst n1 N1)) := x2
                    have y2 : x = .string (bytes (lst n2 N2)) := y2
                    rw [x2] at y2
                    have h3 : bytes (lst n1 N1) = bytes (lst n2 N2) := by injection y2
                    have h4 := congrArg (fun z : ByteArray => z.data.toList) h3
                    rw [eqNs_spec] at hes
                    simp only [bytes] at h4
                    rw [h4] at hes
                    simp at hes
                  rw [he]
                  exact run_same_far hne (m1.2.2.2.2.1 _ rfl).1 (m2.2.2.2.2.1 _ rfl).1 m1.2.2.2.2.2 m2.2.2.2.2.2
              · cases hk2
        · cases hk
      · cases hk
    · -- interface
      rename_i ms hu
      split at hk
      · refine ⟨_, hk, fun D hD p lim r w vx vy H hx hy => ?_⟩
        cases hx; cases hy
        obtain ⟨D, rfl⟩ : ∃ n, D = n + 1 := ⟨D - 1, by omega⟩
        first | exact q_p00 hu | exact q_p01 hu _ | exact q_p10 hu _ | exact q_i00 hu | exact q_i01 hu _ _ | exact q_i10 hu _ _ | exact q_s00 hu _ _ _ _ | exact q_s01 hu _ _ _ _ _ | exact q_s10 hu _ _ _ _ _ | exact q_m00 hu | exact q_m01 hu _ | exact q_m10 hu _ | exact q_f00 hu | exact q_f01 hu _ _ _ | exact q_f10 hu _ _ _
      · refine ⟨_, hk, fun D hD p lim r w vx vy H hx hy => ?_⟩
        obtain ⟨z, rfl, _⟩ := hy
        cases hx
        obtain ⟨D, rfl⟩ : ∃ n, D = n + 1 := ⟨D - 1, by omega⟩
        first | exact q_p00 hu | exact q_p01 hu _ | exact q_p10 hu _ | exact q_i00 hu | exact q_i01 hu _ _ | exact q_i10 hu _ _ | exact q_s00 hu _ _ _ _ | exact q_s01 hu _ _ _ _ _ | exact q_s10 hu _ _ _ _ _ | exact q_m00 hu | exact q_m01 hu _ | exact q_m10 hu _ | exact q_f00 hu | exact q_f01 hu _ _ _ | exact q_f10 hu _ _ _
      · refine ⟨_, hk, fun D hD p lim r w vx vy H hx hy => ?_⟩
        obtain ⟨z, rfl, _⟩ := hx
        cases hy
        obtain ⟨D, rfl⟩ : ∃ n, D = n + 1 := ⟨D - 1, by omega⟩
        first | exact q_p00 hu | exact q_p01 hu _ | exact q_p10 hu _ | exact q_i00 hu | exact q_i01 hu _ _ | exact q_i10 hu _ _ | exact q_s00 hu _ _ _ _ | exact q_s01 hu _ _ _ _ _ | exact q_s10 hu _ _ _ _ _ | exact q_m00 hu | exact q_m01 hu _ | exact q_m10 hu _ | exact q_f00 hu | exact q_f01 hu _ _ _ | exact q_f10 hu _ _ _
      · rename_i ta a tb b
        split at hk
        · rename_i hne
          have hne : ta ≠ tb := fun e => by rw [e, Nat.beq_refl] at hne; cases hne
          refine ⟨_, hk, fun D hD p lim r w vx vy H hx hy => ?_⟩
          obtain ⟨z, rfl, _⟩ := hx
          obtain ⟨z', rfl, _⟩ := hy
          obtain ⟨D, rfl⟩ : ∃ n, D = n + 1 := ⟨D - 1, by omega⟩
          exact q_ine hu _ _ _ _ hne
        · rename_i he
          have he := Nat.eq_of_beq_eq_true he
          subst he
          split at hk
          · rename_i inf hi
            split at hk
            · rename_i hc
              obtain ⟨b', h1, h2⟩ := eqK_ok hk
              refine ⟨b', h1, fun D hD p lim r w vx vy H hx hy => ?_⟩
              obtain ⟨z, rfl, hz⟩ := hx
              obtain ⟨z', rfl, hz'⟩ := hy
              obtain ⟨D, rfl⟩ : ∃ n, D = n + 1 := ⟨D - 1, by omega⟩
              rw [q_ieq hu _ _ _ hi hc, h2 D (by omega) p lim r w z z' H hz hz']
            · cases hk
          · cases hk
      · cases hk
    · -- struct
      rename_i fs hu
      split at hk
      · split at hk
        · rename_i hp
          obtain ⟨b, h1, h2⟩ := eqFsK_ok hk
          refine ⟨b, h1, fun D hD p lim r w vx vy H hx hy => ?_⟩
          obtain ⟨xs, rfl, hxs⟩ := hx
          obtain ⟨ys, rfl, hys⟩ := hy
          obtain ⟨D, rfl⟩ : ∃ n, D = n + 1 := ⟨D - 1, by omega⟩
          have hf : P.fieldsOf t = fs := by simp [Program.fieldsOf, hu]
          rw [run_equalIn_struct w D t _ _ (by rw [hf]; exact hu) hp, hf]
          exact h2 D (by omega) p lim r w xs ys H hxs hys
        · cases hk
      · cases hk
    · -- slice
      rename_i e hu
      split at hk
      · refine ⟨_, hk, fun D hD p lim r w vx vy H hx hy => ?_⟩
        cases hx; cases hy
        obtain ⟨D, rfl⟩ : ∃ n, D = n + 1 := ⟨D - 1, by omega⟩
        first | exact q_p00 hu | exact q_p01 hu _ | exact q_p10 hu _ | exact q_i00 hu | exact q_i01 hu _ _ | exact q_i10 hu _ _ | exact q_s00 hu _ _ _ _ | exact q_s01 hu _ _ _ _ _ | exact q_s10 hu _ _ _ _ _ | exact q_m00 hu | exact q_m01 hu _ | exact q_m10 hu _ | exact q_f00 hu | exact q_f01 hu _ _ _ | exact q_f10 hu _ _ _
      all_goals first
        | (refine ⟨_, hk, fun D hD p lim r w vx vy H hx hy => ?_⟩
           obtain ⟨B1, O1, K1, hr1, rfl⟩ := hy
           cases hx
           obtain ⟨D, rfl⟩ : ∃ n, D = n + 1 := ⟨D - 1, by omega⟩
           first | exact q_p00 hu | exact q_p01 hu _ | exact q_p10 hu _ | exact q_i00 hu | exact q_i01 hu _ _ | exact q_i10 hu _ _ | exact q_s00 hu _ _ _ _ | exact q_s01 hu _ _ _ _ _ | exact q_s10 hu _ _ _ _ _ | exact q_m00 hu | exact q_m01 hu _ | exact q_m10 hu _ | exact q_f00 hu | exact q_f01 hu _ _ _ | exact q_f10 hu _ _ _)
        | (refine ⟨_, hk, fun D hD p lim r w vx vy H hx hy => ?_⟩
           obtain ⟨B1, O1, K1, hr1, rfl⟩ := hx
           cases hy
           obtain ⟨D, rfl⟩ : ∃ n, D = n + 1 := ⟨D - 1, by omega⟩
           first | exact q_p00 hu | exact q_p01 hu _ | exact q_p10 hu _ | exact q_i00 hu | exact q_i01 hu _ _ | exact q_i10 hu _ _ | exact q_s00 hu _ _ _ _ | exact q_s01 hu _ _ _ _ _ | exact q_s10 hu _ _ _ _ _ | exact q_m00 hu | exact q_m01 hu _ | exact q_m10 hu _ | exact q_f00 hu | exact q_f01 hu _ _ _ | exact q_f10 hu _ _ _)
        | cases hk
    · -- map
      rename_i k1 e hu
      split at hk
      · refine ⟨_, hk, fun D hD p lim r w vx vy H hx hy => ?_⟩
        cases hx; cases hy
        obtain ⟨D, rfl⟩ : ∃ n, D = n + 1 := ⟨D - 1, by omega⟩
        first | exact q_p00 hu | exact q_p01 hu _ | exact q_p10 hu _ | exact q_i00 hu | exact q_i01 hu _ _ | exact q_i10 hu _ _ | exact q_s00 hu _ _ _ _ | exact q_s01 hu _ _ _ _ _ | exact q_s10 hu _ _ _ _ _ | exact q_m00 hu | exact q_m01 hu _ | exact q_m10 hu _ | exact q_f00 hu | exact q_f01 hu _ _ _ | exact q_f10 hu _ _ _
      all_goals first
        | (refine ⟨_, hk, fun D hD p lim r w vx vy H hx hy => ?_⟩
           obtain ⟨B1, O1, K1, hr1, rfl⟩ := hy
           cases hx
           obtain ⟨D, rfl⟩ : ∃ n, D = n + 1 := ⟨D - 1, by omega⟩
           first | exact q_p00 hu | exact q_p01 hu _ | exact q_p10 hu _ | exact q_i00 hu | exact q_i01 hu _ _ | exact q_i10 hu _ _ | exact q_s00 hu _ _ _ _ | exact q_s01 hu _ _ _ _ _ | exact q_s10 hu _ _ _ _ _ | exact q_m00 hu | exact q_m01 hu _ | exact q_m10 hu _ | exact q_f00 hu | exact q_f01 hu _ _ _ | exact q_f10 hu _ _ _)
        | (refine ⟨_, hk, fun D hD p lim r w vx vy H hx hy => ?_⟩
           obtain ⟨B1, O1, K1, hr1, rfl⟩ := hx
           cases hy
           obtain ⟨D, rfl⟩ : ∃ n, D = n + 1 := ⟨D - 1, by omega⟩
           first | exact q_p00 hu | exact q_p01 hu _ | exact q_p10 hu _ | exact q_i00 hu | exact q_i01 hu _ _ | exact q_i10 hu _ _ | exact q_s00 hu _ _ _ _ | exact q_s01 hu _ _ _ _ _ | exact q_s10 hu _ _ _ _ _ | exact q_m00 hu | exact q_m01 hu _ | exact q_m10 hu _ | exact q_f00 hu | exact q_f01 hu _ _ _ | exact q_f10 hu _ _ _)
        | cases hk
    · -- func
      rename_i k1 e vv hu
      split at hk
      · refine ⟨_, hk, fun D hD p lim r w vx vy H hx hy => ?_⟩
        cases hx; cases hy
        obtain ⟨D, rfl⟩ : ∃ n, D = n + 1 := ⟨D - 1, by omega⟩
        first | exact q_p00 hu | exact q_p01 hu _ | exact q_p10 hu _ | exact q_i00 hu | exact q_i01 hu _ _ | exact q_i10 hu _ _ | exact q_s00 hu _ _ _ _ | exact q_s01 hu _ _ _ _ _ | exact q_s10 hu _ _ _ _ _ | exact q_m00 hu | exact q_m01 hu _ | exact q_m10 hu _ | exact q_f00 hu | exact q_f01 hu _ _ _ | exact q_f10 hu _ _ _
      all_goals first
        | (refine ⟨_, hk, fun D hD p lim r w vx vy H hx hy => ?_⟩
           obtain ⟨x1, y1, rfl, _⟩ := hy
           cases hx
           obtain ⟨D, rfl⟩ : ∃ n, D = n + 1 := ⟨D - 1, by omega⟩
           first | exact q_p00 hu | exact q_p01 hu _ | exact q_p10 hu _ | exact q_i00 hu | exact q_i01 hu _ _ | exact q_i10 hu _ _ | exact q_s00 hu _ _ _ _ | exact q_s01 hu _ _ _ _ _ | exact q_s10 hu _ _ _ _ _ | exact q_m00 hu | exact q_m01 hu _ | exact q_m10 hu _ | exact q_f00 hu | exact q_f01 hu _ _ _ | exact q_f10 hu _ _ _)
        | (refine ⟨_, hk, fun D hD p lim r w vx vy H hx hy => ?_⟩
           obtain ⟨x1, y1, rfl, _⟩ := hx
           cases hy
           obtain ⟨D, rfl⟩ : ∃ n, D = n + 1 := ⟨D - 1, by omega⟩
           first | exact q_p00 hu | exact q_p01 hu _ | exact q_p10 hu _ | exact q_i00 hu | exact q_i01 hu _ _ | exact q_i10 hu _ _ | exact q_s00 hu _ _ _ _ | exact q_s01 hu _ _ _ _ _ | exact q_s10 hu _ _ _ _ _ | exact q_m00 hu | exact q_m01 hu _ | exact q_m10 hu _ | exact q_f00 hu | exact q_f01 hu _ _ _ | exact q_f10 hu _ _ _)
        | cases hk
    · -- array
      rename_i n e hu
      split at hk
      · obtain ⟨i, hi, hk, hsz⟩ := sizeK_ok hk
        obtain ⟨b, h1, h2⟩ := eqAsK_ok hk
        refine ⟨b, h1, fun D hD p lim r w vx vy H hx hy => ?_⟩
        obtain ⟨xs, rfl, hxs⟩ := hx
        obtain ⟨ys, rfl, hys⟩ := hy
        obtain ⟨D, rfl⟩ : ∃ n, D = n + 1 := ⟨D - 1, by omega⟩
        rw [run_equalIn_array w D _ _ hu hi, List.range_eq_range']
        exact h2 (by simp [Program.cellsOf, hi]) D (by omega) p lim r w xs ys H hxs hys
      · cases hk
    · cases hk
theorem eqAsK_ok {v : AV} {h : T} : ∀ {d : Nat} {e : TypeId} {sz i n : Nat} {xs ys : List AV} {k : Bool → Out}, eqAsK P h d e sz i n xs ys k = .ok v → ∃ b, k b = .ok v ∧ (P.cellsOf e = sz → ∀ D, d ≤ D → ∀ p lim r w vs us, HR p lim r h.get w → VRs r xs vs → VRs r ys us → (Op.eqItems D e (P.cellsOf e) vs.toArray us.toArray (List.range' i n)).run P w = .ok b w)
  | 0, e, sz, i, n, xs, ys, k, hk => by simp [eqAsK] at hk
  | d + 1, e, sz, i, 0, xs, ys, k, hk => ⟨true, by simpa [eqAsK] using hk, fun hs D hD p lim r w vs us H hx hy => rfl⟩
  | d + 1, e, sz, i, n + 1, xs, ys, k, hk => by
    simp only [eqAsK, fN_eq] at hk
    obtain ⟨a, h1, h2⟩ := partK_ok hk
    obtain ⟨b, h3, h4⟩ := partK_ok h1
    obtain ⟨c, h5, h6⟩ := eqK_ok h3
    cases c with
    | true =>
      obtain ⟨z, h7, h8⟩ := eqAsK_ok h5
      refine ⟨true && z, h7, fun hs D hD p lim r w vs us H hx hy => ?_⟩
      obtain ⟨va, e1, e2⟩ := h2 r vs w hx
      obtain ⟨vb, e3, e4⟩ := h4 r us w hy
      have e5 := h6 D (by omega) p lim r w va vb H e2 e4
      have e1 : (part e vs.toArray (i * P.cellsOf e)).run P w = .ok va w := by rw [hs]; exact e1
      have e3 : (part e us.toArray (i * P.cellsOf e)).run P w = .ok vb w := by rw [hs]; exact e3
      rw [List.range'_succ]
      simp only [Op.eqItems, Sem.run_bind, e1, e3, e5, Result.andThen_ok]
      simpa using h8 hs D (by omega) p lim r w vs us H hx hy
    | false =>
      obtain ⟨z, h7, _⟩ := eqAsK_ok h5
      refine ⟨false, h7, fun hs D hD p lim r w vs us H hx hy => ?_⟩
      obtain ⟨va, e1, e2⟩ := h2 r vs w hx
      obtain ⟨vb, e3, e4⟩ := h4 r us w hy
      have e5 := h6 D (by omega) p lim r w va vb H e2 e4
      have e1 : (part e vs.toArray (i * P.cellsOf e)).run P w = .ok va w := by rw [hs]; exact e1
      have e3 : (part e us.toArray (i * P.cellsOf e)).run P w = .ok vb w := by rw [hs]; exact e3
      rw [List.range'_succ]
      simp only [Op.eqItems, Sem.run_bind, e1, e3, e5, Result.andThen_ok]
      rfl
theorem eqFsK_ok {v : AV} {h : T} : ∀ {d : Nat} {fs : List Field} {xs ys : List AV} {k : Bool → Out}, eqFsK P h d fs xs ys k = .ok v → ∃ b, k b = .ok v ∧ ∀ D, d ≤ D → ∀ p lim r w vs us, HR p lim r h.get w → VRs r xs vs → VRs r ys us → (Op.eqFields D vs.toArray us.toArray fs).run P w = .ok b w
  | 0, fs, xs, ys, k, hk => by simp [eqFsK] at hk
  | d + 1, [], xs, ys, k, hk => ⟨true, by simpa [eqFsK] using hk, fun D hD p lim r w vs us H hx hy => rfl⟩
  | d + 1, f :: fs, xs, ys, k, hk => by
    simp only [eqFsK] at hk
    split at hk
    · rename_i hn
      have hn := of_decide_eq_true hn
      obtain ⟨a, h1, h2⟩ := partK_ok hk
      obtain ⟨b, h3, h4⟩ := partK_ok h1
      obtain ⟨c, h5, h6⟩ := eqK_ok h3
      cases c with
      | true =>
        obtain ⟨z, h7, h8⟩ := eqFsK_ok h5
        refine ⟨true && z, h7, fun D hD p lim r w vs us H hx hy => ?_⟩
        obtain ⟨va, e1, e2⟩ := h2 r vs w hx
        obtain ⟨vb, e3, e4⟩ := h4 r us w hy
        have e5 := h6 D (by omega) p lim r w va vb H e2 e4
        simp only [Op.eqFields, if_pos hn, Sem.run_bind, e1, e3, e5, Result.andThen_ok]
        simpa using h8 D (by omega) p lim r w vs us H hx hy
      | false =>
        obtain ⟨z, h7, _⟩ := eqFsK_ok h5
        refine ⟨false, h7, fun D hD p lim r w vs us H hx hy => ?_⟩
        obtain ⟨va, e1, e2⟩ := h2 r vs w hx
        obtain ⟨vb, e3, e4⟩ := h4 r us w hy
        have e5 := h6 D (by omega) p lim r w va vb H e2 e4
        simp only [Op.eqFields, if_pos hn, Sem.run_bind, e1, e3, e5, Result.andThen_ok]
        rfl
    · rename_i hn
      have hn := of_decide_eq_false hn
      obtain ⟨z, h7, h8⟩ := eqFsK_ok hk
      refine ⟨z, h7, fun D hD p lim r w vs us H hx hy => ?_⟩
      simp only [Op.eqFields, if_neg hn]
      exact h8 D (by omega) p lim r w vs us H hx hy
end
end Clu
end Go.Proofs.Ythghohgjedjpbaa
