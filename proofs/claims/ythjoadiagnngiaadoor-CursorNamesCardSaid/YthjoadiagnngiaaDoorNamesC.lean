import Derived.Test.YthjoadiagnngiaaDoorAwakeC
namespace Go.Proofs.YthjoadiagnngiaaDoor
open Go.RowKit
set_option linter.unusedVariables false

def ffs : ByteArray := { data := #[255, 255, 255, 255, 255, 255, 255] }

set_option maxRecDepth 4000 in
set_option maxHeartbeats 4000000 in
theorem names_any (w : World) (hg : HG w) :
    Calls Tryd.prog 5 #[] w fun e w' => e = .returned (.bool true) ∧ Below w.heap.size w w' := by
  go_enter Tryd.func5, Tryd.ntmps5
  go_wp2_with fail
  refine (awake_any _ hg).mono ?_
  rintro e w0 ⟨rfl, b0⟩
  go_wp2_with fail
  refine (new_any ffs _ (by decide) (hg.below b0).lt).mono ?_
  rintro e w1 ⟨p, rfl, h1, hg1, hp1⟩
  have hp := bl_le b0 hp1
  have b1 := bl_none b0 hg1
  go_wp2_with fail
  refine (four_val 4 4294967295 h1 (by decide) rfl (by decide)).mono ?_
  rintro e w2 ⟨rfl, h2, hg2⟩
  have b2 := bl_some b1 hg2 hp
  go_wp2_with fail
  refine (two_val 6 65535 h2 (by decide) rfl (by decide)).mono ?_
  rintro e w3 ⟨rfl, h3, hg3⟩
  have b3 := bl_some b2 hg3 hp
  go_wp2_with fail
  refine (byte_val 7 255 h3 (by decide) rfl (by decide)).mono ?_
  rintro e w4 ⟨rfl, h4, hg4⟩
  have b4 := bl_some b3 hg4 hp
  go_wp2_with fail
  refine (take_val 0 7 0 { data := #[] } h4 (by decide) rfl rfl (by decide)).mono ?_
  rintro e w5 ⟨rfl, h5, hg5⟩
  have b5 := bl_some b4 hg5 hp
  go_wp2_with fail
  refine (take_bad (hg.below b5) (refused_short h5 1 (by decide) (by decide))).mono ?_
  rintro e w6 ⟨rfl, hg6⟩
  have h6 := h5.grown hg6
  have b6 := bl_none b5 hg6
  go_wp2_with fail
  refine (take_bad (hg.below b6) (refused_neg p (-1) _ (by decide))).mono ?_
  rintro e w7 ⟨rfl, hg7⟩
  have h7 := h6.grown hg7
  have b7 := bl_none b6 hg7
  go_wp2_with fail
  refine (take_bad (hg.below b7) (refused_short h7 9223372036854775807 (by decide) (by decide))).mono ?_
  rintro e w8 ⟨rfl, hg8⟩
  have h8 := h7.grown hg8
  have b8 := bl_none b7 hg8
  clear h1 h2 h3 h4 h5 h6 h7 b1 b2 b3 b4 b5 b6 b7 hg1 hg2 hg3 hg4 hg5 hg6 hg7 hg8
  go_wp2_with fail
  refine (at_val 7 h8 rfl).mono ?_
  rintro e w9 ⟨rfl, rfl⟩
  go_wp2_with fail
  refine (left_val 0 h8 (by decide)).mono ?_
  rintro e w9 ⟨rfl, m9, rfl⟩
  have h9 := h8.grown (grown_drewN w8 m9 none)
  have b9 := bl_drewN b8 m9
  go_wp2_with fail
  refine (seek_bad (-1) h9 (by decide)).mono ?_
  rintro e w10 ⟨rfl, rfl⟩
  go_wp2_with fail
  refine (seek_val 0 0 h9 (by decide) rfl).mono ?_
  rintro e w10 ⟨rfl, h10, hg10⟩
  have b10 := bl_some b9 hg10 hp
  go_wp2_with fail
  refine (at_val 0 h10 rfl).mono ?_
  rintro e w11 ⟨rfl, rfl⟩
  go_wp2_with fail
  refine (left_val 7 h10 (by decide)).mono ?_
  rintro e w11 ⟨rfl, m11, rfl⟩
  have h11 := h10.grown (grown_drewN w10 m11 none)
  have b11 := bl_drewN b10 m11
  clear h8 h9 h10 b8 b9 b10 hg10
  generalize w10.drewN m11 = w11 at h11 b11 ⊢
  go_wp2_with fail
  refine (new_any ByteArray.empty _ (by decide) (hg.below b11).lt).mono ?_
  rintro e w12 ⟨q, rfl, h12, hg12, hq⟩
  have hq := bl_le b11 hq
  have b12 := bl_none b11 hg12
  go_wp2_with fail
  refine (byte_bad (hg.below b12) (refused_short h12 1 (by decide) (by decide))).mono ?_
  rintro e w13 ⟨rfl, hg13⟩
  have h13 := h12.grown hg13
  have b13 := bl_none b12 hg13
  go_wp2_with fail
  refine (take_val 0 0 0 { data := #[] } h13 (by decide) rfl rfl (by decide)).mono ?_
  rintro e w14 ⟨rfl, h14, hg14⟩
  have b14 := bl_some b13 hg14 hq
  clear h11 h12 h13 b11 b12 b13 hg12 hg13 hg14
  go_wp2_with fail
  refine (byte_bad (hg.below b14) (refused_nil 1 _)).mono ?_
  rintro e w15 ⟨rfl, hg15⟩
  have b15 := bl_none b14 hg15
  go_wp2_with fail
  refine (two_bad (hg.below b15) (refused_nil 2 _)).mono ?_
  rintro e w16 ⟨rfl, hg16⟩
  have b16 := bl_none b15 hg16
  go_wp2_with fail
  refine (four_bad (hg.below b16) (refused_nil 4 _)).mono ?_
  rintro e w17 ⟨rfl, hg17⟩
  have b17 := bl_none b16 hg17
  go_wp2_with fail
  refine (take_bad (hg.below b17) (refused_nil 0 _)).mono ?_
  rintro e w18 ⟨rfl, hg18⟩
  have b18 := bl_none b17 hg18
  clear b14 b15 b16 b17 hg15 hg16 hg17 hg18
  go_wp2_with fail
  refine (seek_nil 0 _).mono ?_
  rintro e w19 ⟨rfl, rfl⟩
  go_wp2_with fail
  refine (at_nil _).mono ?_
  rintro e w19 ⟨rfl, rfl⟩
  go_wp2_with fail
  refine (left_nil _).mono ?_
  rintro e w19 ⟨rfl, rfl⟩
  have hmark := conv_mark w18 #[.int .u8 97] 1 1
  go_wp2_with fail
  refine (put1_val [97, 0] 2 (l := [97]) (n := 0) (Bytes.litm w18 [97] #[.int .u8 97] 1 _ rfl rfl) (by decide) (by decide) rfl rfl rfl).mono ?_
  rintro e w19 ⟨g19, rfl, _, hown19, hg19⟩
  have b19 := bl_none (bl_alloc b18 _) hg19
  have hc19 := conv_val { data := #[97, 0] } (Bytes.of_own hown19) rfl
  go_wp2_with fail
  refine (put2_val [255, 255] 2 (n := 65535) (bytes_nil _) (by decide) (by decide) rfl (by decide) rfl).mono ?_
  rintro e w20 ⟨g20, rfl, _, hown20, hg20⟩
  have b20 := bl_none b19 hg20
  have hc20 := conv_val { data := #[255, 255] } (Bytes.of_own hown20) rfl
  go_wp2_with fail
  refine (put4_val [128, 0, 0, 0] 4 (n := 2147483648) (bytes_nil _) (by decide) (by decide) rfl (by decide) rfl).mono ?_
  rintro e w21 ⟨g21, rfl, _, hown21, hg21⟩
  have b21 := bl_none b20 hg21
  have hc21 := conv_val { data := #[128, 0, 0, 0] } (Bytes.of_own hown21) rfl
  clear b18 b19 b20 hg19 hg20 hg21 hown19 hown20 hown21 h14
  go_wp2
  go_ret
  exact ⟨rfl, b21⟩
end Go.Proofs.YthjoadiagnngiaaDoor
