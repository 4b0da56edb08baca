/-
  Runs of closed calls by the kernel: texts ranged over, assertions, conversions, append, copy, maps.
-/
import Derived.Test.YthghohgjedjpbaaCluK
import Derived.Laws.IdiomStrings
import Derived.Laws.BytesArg
namespace Go.Proofs.Ythghohgjedjpbaa
namespace Clu
open Go.RowKit
set_option linter.unusedVariables false
variable {P : Program}

theorem BR.same {r : Rn} {id : Nat} {b : Blk} {w w' : World} (h : BR r id b w) (hs : w.heap.size ≤ w'.heap.size) (he : ∀ x, r id = some x → w'.heap[x.1]? = w.heap[x.1]?) : BR r id b w' := by
  obtain ⟨B, O, K, h1, h2, h3⟩ := h
  have hb := he _ h1
  simp only at hb
  refine ⟨B, O, K, h1, Nat.lt_of_lt_of_le h2 hs, ?_⟩
  have hc : ∀ o, w'.cell? ⟨B, o, none⟩ = w.cell? ⟨B, o, none⟩ := fun o => by unfold World.cell?; rw [hb]
  have hf : ∀ o, w'.frozen? ⟨B, o, none⟩ = w.frozen? ⟨B, o, none⟩ := fun o => by unfold World.frozen?; rw [hb]
  have hsh : w'.shape? B = w.shape? B := by unfold World.shape?; rw [hb]
  cases b with
  | c cells fz osz pl => simp only [hc, hf, hsh]; exact h3
  | it n N pos => simp only [hb]; exact h3
  | mp es clock => simp only [hb]; exact h3
/-- an object that is no row is put anew -/
theorem HR.obj {p : Nat → Prop} {lim : Nat} {r : Rn} {h : Nat → Option Blk} {w : World} (H : HR p lim r h w) {id : Nat} {b b' : Blk} (hid : h id = some b) (hl : lim ≤ id) {Bk O K : Nat} (hr : r id = some (Bk, O, K)) (o : Obj)
    (hbr : BR r id b' { w with heap := w.heap.setIfInBounds Bk o }) (hro : b.ro = false := by rfl) : HR p lim r (upd h id (some b')) { w with heap := w.heap.setIfInBounds Bk o } ∧ Kp p w { w with heap := w.heap.setIfInBounds Bk o } := by
  have hlow := H.low id _ _ hid hl hro hr
  have hne : ∀ k, k ≠ Bk → ({ w with heap := w.heap.setIfInBounds Bk o } : World).heap[k]? = w.heap[k]? := fun k hk => by
    show (w.heap.setIfInBounds Bk o)[k]? = _
    rw [Array.getElem?_setIfInBounds_ne (Ne.symm hk)]
  refine ⟨⟨fun j b hj => ?_, fun j j' b1 b2 x x' hS e1 e2 e3 e4 e5 => ?_, fun j b x e1 e2 e0 e3 => ?_, fun k hk => by simpa using H.bd k hk, H.glob⟩, ⟨rfl, rfl, rfl, by simp, fun k hk => hne k (fun e => hlow (by rw [← e]; exact hk))⟩⟩
  · by_cases hji : j = id
    · subst hji; rw [upd_same] at hj; cases hj; exact hbr
    · rw [upd_ne _ _ hji] at hj
      exact (H.blk j b hj).same (by simp) (fun x hx => hne _ (fun e => hji (H.inj j id _ _ _ _ (.inr (.inl hl)) hj hid hx hr e)))
  · have lift : ∀ j b, upd h id (some b') j = some b → ∃ b'', h j = some b'' ∧ (lim ≤ j ∨ b'' = b) := fun j b hj => by
      by_cases hji : j = id
      · subst hji; exact ⟨_, hid, .inl hl⟩
      · rw [upd_ne _ _ hji] at hj; exact ⟨b, hj, .inr rfl⟩
    obtain ⟨c1, e1, q1⟩ := lift _ _ e1
    obtain ⟨c2, e2, q2⟩ := lift _ _ e2
    have hS' : Sep lim j j' c1 c2 := by
      rcases q1 with q1 | rfl
      · exact .inl q1
      · rcases q2 with q2 | rfl
        · exact .inr (.inl q2)
        · exact hS
    exact H.inj j j' _ _ x x' hS' e1 e2 e3 e4 e5
  · by_cases hji : j = id
    · subst hji; rw [hr] at e3; cases e3; exact hlow
    · rw [upd_ne _ _ hji] at e1; exact H.low j b x e1 e2 e0 e3
theorem nextK_ok {v : AV} {lim : Nat} {h : T} {x : AV} {k : AV → T → Out} (hk : nextK lim h x k = .ok v) :
    ∃ a h', k a h' = .ok v ∧ KeepS lim h h' ∧ ∀ p r w vx ty nx, HR p lim r h.get w → VR r x vx → Res p lim r nx nx h' a w ((Instr.next vx true ty).run P w) := by
  unfold nextK at hk
  split at hk
  · rename_i id
    split at hk
    · rename_i n N pos hb
      split at hk
      · cases hk
      · rename_i hl
        have hl := ble_iff.1 hl
        split at hk
        · rename_i hp
          have hp := blt_ff.1 hp
          refine ⟨_, h, hk, KeepS.refl _ _, fun p r w vx ty nx H hx => ?_⟩
          obtain ⟨Bk, O, K, hr, rfl⟩ := hx
          obtain ⟨_, _, _, e1, _, e2, e3⟩ := H.blk id _ hb
          rw [hr] at e1; cases e1
          subst e2
          refine Res.pure (z := .tuple #[.bool false]) ?_ ⟨[.bool false], rfl, .bool false, [], rfl, rfl, rfl⟩ H
          have hn : ¬ pos < (bytes (lst n N)).size := by rw [bytes_size, lst_length]; omega
          simp [Instr.next, getObj, Sem.run, e3, hn]
        · rename_i hp
          have hp := blt_iff.1 hp
          rw [fN_eq, fN_eq] at hk
          obtain ⟨h', h1, h2⟩ := Tr.setK_ok hk
          refine ⟨_, h', h1, KeepS.upd hb hl h2 rfl, fun p r w vx ty nx H hx => ?_⟩
          · obtain ⟨Bk, O, K, hr, rfl⟩ := hx
            obtain ⟨_, _, _, e1, hlt, e2, e3⟩ := H.blk id _ hb
            rw [hr] at e1; cases e1
            subst e2
            have hn : pos < (bytes (lst n N)).size := by rw [bytes_size, lst_length]; exact hp
            have hd := decL_eq (N := N) hp
            obtain ⟨H', K'⟩ := H.obj hb hl hr (.stringIter (bytes (lst n N)) (pos + (decL n N pos).2)) (b' := .it n N (pos.add (decL n N pos).2))
              ⟨Bk, 0, K, hr, by simpa using hlt, rfl, by show (w.heap.setIfInBounds Bk _)[Bk]? = _; simp [hlt]⟩
            refine ⟨r, .tuple #[.bool true, .int .i64 pos, .int .i32 (decL n N pos).1], _, ?_, Ext.refl _ _ _, ⟨[.bool true, .int .i64 pos, .int .i32 (decL n N pos).1], rfl, _, _, rfl, rfl, _, _, rfl, rfl, _, _, rfl, rfl, rfl⟩, H'.congr h2, K'⟩
            rw [hd]
            simp [Instr.next, getObj, setObj, Sem.run, e3, hn, goInt]
    · cases hk
  · cases hk
theorem freeze_eq {w : World} {B n : Nat} {c : Array Value} {el : TypeId} {fr : Nat × Nat} (hh : w.heap[B]? = some (.cells c el fr)) : ∃ fr', w.freeze ⟨B, 0, none⟩ n = { w with heap := w.heap.setIfInBounds B (.cells c el fr') } := by
  have key : ∀ o, w.heap[B]? = some o → ∀ f : Obj → Obj, w.heap.modify B f = w.heap.setIfInBounds B (f o) := fun o ho f => by
    apply Array.ext_getElem?
    intro j
    rw [Array.getElem?_modify, Array.getElem?_setIfInBounds]
    split
    · rename_i e
      subst e
      obtain ⟨hlt, hv⟩ := Array.getElem?_eq_some_iff.1 ho
      simp [hlt, hv]
    · rfl
  unfold World.freeze
  split
  · refine ⟨fr, ?_⟩
    have := key _ hh id
    have e : w.heap.modify B id = w.heap := by
      apply Array.ext_getElem?
      intro j
      rw [Array.getElem?_modify]
      split <;> simp
    rw [show (id (Obj.cells c el fr)) = Obj.cells c el fr from rfl] at this
    rw [← this, e]
  · obtain ⟨lo, hi⟩ := fr
    exact ⟨_, by rw [key _ hh]⟩
/-- a row whose bytes a string shares: nothing writes it any more -/
theorem HR.freeze {p : Nat → Prop} {lim : Nat} {r : Rn} {h : Nat → Option Blk} {w : World} (H : HR p lim r h w) {id fz osz : Nat} {cs : List AV} {pl : Option TypeId} (hid : h id = some (.c cs fz osz pl)) (hl : lim ≤ id) (hro : (Blk.c cs fz osz pl).ro = false) {Bk O K : Nat} (hr : r id = some (Bk, O, K)) (n : Nat) :
    HR p lim r (upd h id (some (.c cs cs.length 0 none))) (w.freeze ⟨Bk, 0, none⟩ n) ∧ Kp p w (w.freeze ⟨Bk, 0, none⟩ n) := by
  obtain ⟨B', O', K', e1, hlt, k1, _, _, _, _, k6⟩ := H.blk id _ hid
  rw [hr] at e1; cases e1
  obtain ⟨c, el, fr, hh⟩ : ∃ c el fr, w.heap[Bk]? = some (.cells c el fr) := by
    unfold World.shape? at k6
    split at k6
    · rename_i c el fr hh
      exact ⟨c, el, fr, hh⟩
    · cases k6
  obtain ⟨fr', hf⟩ := freeze_eq (n := n) hh
  rw [hf]
  have hnew : ({ w with heap := w.heap.setIfInBounds Bk (.cells c el fr') } : World).heap[Bk]? = some (.cells c el fr') := by
    show (w.heap.setIfInBounds Bk _)[Bk]? = _
    rw [Array.getElem?_setIfInBounds_self_of_lt hlt]
  refine H.obj hid hl hr _ ⟨Bk, O, K, hr, by simpa using hlt, fun j a hj => ?_, fun j h1 h2 => by omega, fun o h1 h2 => by omega, fun h => absurd rfl h, fun ty h => (by cases h), ?_⟩ hro
  · obtain ⟨x, x1, x2⟩ := k1 j a hj
    refine ⟨x, ?_, x2⟩
    unfold World.cell? at x1 ⊢
    simp only [hh] at x1
    simp only [hnew]
    exact x1
  · unfold World.shape?
    rw [hnew]
    rfl
theorem missing_of (want : Array (String × TypeId)) (got : Array Method) : (hasAll want.toList got.toList = true → Instr.missingMethod want got = none) ∧ (hasAll want.toList got.toList = false → ∃ s, Instr.missingMethod want got = some s) := by
  have key : hasAll want.toList got.toList = true ↔ (want.toList.filter fun x => !got.any fun m => m.name == x.1 && m.sig == x.2) = [] := by
    rw [List.filter_eq_nil_iff]
    unfold hasAll
    rw [List.all_eq_true]
    constructor
    · intro h x hx
      have := h x hx
      rw [Array.any_toList] at this
      simp [this]
    · intro h x hx
      have := h x hx
      rw [Array.any_toList]
      simpa using this
  constructor
  · intro h
    unfold Instr.missingMethod
    have h' := key.1 h
    simp only
    rw [show (want.toList.filter fun (x : String × TypeId) => match x with | (name, sig) => !got.any fun m => m.name == name && m.sig == sig) = [] from h']
    rfl
  · intro h
    unfold Instr.missingMethod
    simp only
    have h' : (want.toList.filter fun (x : String × TypeId) => match x with | (name, sig) => !got.any fun m => m.name == name && m.sig == sig) ≠ [] := fun h1 => by
      rw [key.2 h1] at h; cases h
    generalize (want.toList.filter fun (x : String × TypeId) => match x with | (name, sig) => !got.any fun m => m.name == name && m.sig == sig) = l at h'
    cases l with
    | nil => exact absurd rfl h'
    | cons a l =>
      rw [List.map_cons, List.partition_eq_filter_filter]
      simp only [List.filter_cons]
      by_cases hc : a.1.contains '.' = true
      · simp only [hc, if_true, List.map_cons, Instr.least]
        have orS : ∀ (A : Option String) (x : String), ∃ s, (A <|> some x) = some s := fun A x => by cases A <;> exact ⟨_, rfl⟩
        exact orS _ _
      · have hc' : (Bool.not ∘ fun x : String => x.contains '.') a.1 = true := by simpa using hc
        simp only [hc', if_true, Instr.least]
        exact ⟨_, rfl⟩
theorem typeAssertK_ok {v : AV} {x : AV} {t : TypeId} {ok : Bool} {k : KO} (hk : typeAssertK P x t ok k = .ok v) :
    ∃ a, k a = .ok v ∧ ∀ r w vx xt, VR r x vx → ∃ z, (Instr.typeAssert vx xt t ok).run P w = .ok z w ∧ VR r a z := by
  have holds : ∀ (y : AV), (match ok with | true => k (.tu [y, .b true]) | false => k y) = .ok v → ∃ a, k a = .ok v ∧ ∀ r vy, VR r y vy → VR r a (if ok = true then .tuple #[vy, .bool true] else vy) := fun y hy => by
    cases ok with
    | true => exact ⟨_, hy, fun r vy h => ⟨[vy, .bool true], rfl, _, _, rfl, h, _, _, rfl, rfl, rfl⟩⟩
    | false => exact ⟨_, hy, fun r vy h => by simpa using h⟩
  have fails : (match ok with | true => zeroK P t fun z => k (.tu [z, .b false]) | false => .err 29 0) = .ok v → ok = true ∧ ∃ a zv, k a = .ok v ∧ (∀ w, (zeroValue t).run P w = .ok zv w) ∧ ∀ r, VR r a (.tuple #[zv, .bool false]) := fun hy => by
    cases ok with
    | true =>
      obtain ⟨z, zv, i, h1, h2, h3, h4, h5, hznj⟩ := zeroK_ok hy
      exact ⟨rfl, _, zv, h1, h5, fun r => ⟨[zv, .bool false], rfl, _, _, rfl, h4 r, _, _, rfl, rfl, rfl⟩⟩
    | false => cases hy
  unfold typeAssertK at hk
  simp only at hk
  split at hk
  · rename_i ms hu
    obtain ⟨rfl, a, zv, h1, h2, h3⟩ := fails hk
    refine ⟨a, h1, fun r w vx xt hx => ?_⟩
    cases hx
    exact ⟨_, by simp [Instr.typeAssert, run_underlying hu, h2], h3 r⟩
  · rename_i want t' y hu
    split at hk
    · rename_i i hi
      split at hk
      · rename_i hm
        have hm := (missing_of want i.methods).1 hm
        obtain ⟨a, h1, h2⟩ := holds _ hk
        refine ⟨a, h1, fun r w vx xt hx => ⟨_, ?_, h2 r vx hx⟩⟩
        obtain ⟨z, rfl, hz⟩ := hx
        simp [Instr.typeAssert, run_underlying hu, typeInfo, hi, hm]
      · rename_i hm
        obtain ⟨m, hm⟩ := (missing_of want i.methods).2 hm
        obtain ⟨rfl, a, zv, h1, h2, h3⟩ := fails hk
        refine ⟨a, h1, fun r w vx xt hx => ?_⟩
        obtain ⟨z, rfl, hz⟩ := hx
        exact ⟨_, by simp [Instr.typeAssert, run_underlying hu, typeInfo, hi, hm, h2], h3 r⟩
    · cases hk
  · rename_i d hn hu
    obtain ⟨rfl, a, zv, h1, h2, h3⟩ := fails hk
    refine ⟨a, h1, fun r w vx xt hx => ?_⟩
    cases hx
    refine ⟨_, ?_, h3 r⟩
    cases d <;> first | (simp [Instr.typeAssert, run_underlying hu, h2]; done) | (exfalso; simp_all; done)
  · rename_i d t' y hn hu
    split at hk
    · rename_i he
      have he := beq_iff.1 he
      subst he
      obtain ⟨a, h1, h2⟩ := holds _ hk
      refine ⟨a, h1, fun r w vx xt hx => ?_⟩
      obtain ⟨z, rfl, hz⟩ := hx
      refine ⟨_, ?_, h2 r z hz⟩
      cases d <;> first | (simp [Instr.typeAssert, run_underlying hu]; done) | (exfalso; simp_all; done)
    · rename_i he
      have he := beq_ff.1 he
      obtain ⟨rfl, a, zv, h1, h2, h3⟩ := fails hk
      refine ⟨a, h1, fun r w vx xt hx => ?_⟩
      obtain ⟨z, rfl, hz⟩ := hx
      refine ⟨_, ?_, h3 r⟩
      cases d <;> first | (simp [Instr.typeAssert, run_underlying hu, he, h2]; done) | (exfalso; simp_all; done)
  · cases hk
end Clu
end Go.Proofs.Ythghohgjedjpbaa
