import Derived.Test.YthjoadiagnngiabDoorNilC
namespace Go.Proofs.YthjoadiagnngiabDoor
open Go.RowKit
set_option linter.unusedVariables false

def five : ByteArray := { data := #[1, 2, 3, 4, 5] }

set_option maxHeartbeats 2000000 in
theorem awake_any (w : World) (hg : HG w) :
    Calls Tryd.prog 10 #[] w fun e w' => e = .returned (.bool true) ∧ Below w.heap.size w w' := by
  go_enter Tryd.func10, Tryd.ntmps10
  go_wp2_with fail
  refine (new_any five _ (by decide) hg.lt).mono ?_
  rintro e w1 ⟨p, rfl, h1, hg1, hp⟩
  have b1 := bl_none (Below.refl w.heap.size w) hg1
  go_wp2_with fail
  refine (byte_val 1 1 h1 (by decide) rfl (by decide)).mono ?_
  rintro e w2 ⟨rfl, h2, hg2⟩
  have b2 := bl_some b1 hg2 hp
  go_wp2_with fail
  refine (two_val 3 515 h2 (by decide) rfl (by decide)).mono ?_
  rintro e w3 ⟨rfl, h3, hg3⟩
  have b3 := bl_some b2 hg3 hp
  go_wp2_with fail
  refine (left_val 2 h3 (by decide)).mono ?_
  rintro e w4 ⟨rfl, m4, rfl⟩
  have h4 := h3.grown (grown_drewN w3 m4 none)
  have b4 := bl_drewN b3 m4
  go_wp2_with fail
  refine (four_bad (hg.below b4) (refused_short h4 4 (by decide) (by decide))).mono ?_
  rintro e w5 ⟨rfl, hg5⟩
  have h5 := h4.grown hg5
  have b5 := bl_none b4 hg5
  go_wp2_with fail
  refine (take_val 2 5 2 { data := #[4, 5] } h5 (by decide) rfl rfl (by decide)).mono ?_
  rintro e w6 ⟨rfl, h6, hg6⟩
  have b6 := bl_some b5 hg6 hp
  go_wp2_with fail
  refine (byte_bad (hg.below b6) (refused_short h6 1 (by decide) (by decide))).mono ?_
  rintro e w7 ⟨rfl, hg7⟩
  have h7 := h6.grown hg7
  have b7 := bl_none b6 hg7
  go_wp2_with fail
  refine (seek_val 5 5 h7 (by decide) rfl).mono ?_
  rintro e w8 ⟨rfl, h8, hg8⟩
  have b8 := bl_some b7 hg8 hp
  go_wp2_with fail
  refine (seek_bad 6 h8 (by decide)).mono ?_
  rintro e w9 ⟨rfl, rfl⟩
  go_wp2_with fail
  refine (put2_val [1, 2] 2 (n := 258) (bytes_nil _) (by decide) (by decide) rfl (by decide) rfl).mono ?_
  rintro e w9 ⟨g9, rfl, _, hown9, hg9⟩
  have b9 := bl_none b8 hg9
  go_wp2_with fail
  refine (put4_val [1, 2, 0, 0, 0, 1] 6 (n := 1) (Bytes.of_own hown9) (by decide) (by decide) rfl (by decide) rfl).mono ?_
  rintro e w10 ⟨g10, rfl, _, hown10, hg10⟩
  have b10 := bl_none b9 hg10
  have hcv := conv_val { data := #[1, 2, 0, 0, 0, 1] } (Bytes.of_own hown10) rfl
  clear h1 h2 h3 h4 h5 h6 h7 h8 hg1 hg2 hg3 hg5 hg6 hg7 hg8 hg9 hg10 b1 b2 b3 b4 b5 b6 b7 b8 b9 hown9 hown10
  go_wp2
  go_ret
  exact ⟨rfl, b10⟩
end Go.Proofs.YthjoadiagnngiabDoor
