/-
  For every input hustings/hustingslaw24.HeardNames returns true, and each argument reads afterwards as it read before; the listed package-level variables start as the program's text lays them (the card ties them).
-/
import Derived.Test.YtodbppopnfabeaaGreatDoorCloErr
import Derived.Test.YtodbppopnfabeaaGreatDoorCloze
import Derived.Test.YtodbppopnfabeaaGreatDoorCloMemoQ
import Derived.Test.YtodbppopnfabeaaGreatDoorCloIs
import Derived.Test.YtodbppopnfabeaaGreatDoorCards
import Derived.Test.YtodbppopnfabeaaGreatDoorTie
import Derived.WalkKit
import Derived.ProofKit
import Derived.OpenShut
import Derived.ShutString
import Derived.ChangeOld
import Derived.Below
import Derived.SliceStrings
import Derived.ChangeSame
import Derived.ChangeVars
import Derived.JoinedOf
import Derived.RowKit
import Derived.RowKitTokens
import Derived.LaidLaws
import Derived.LaidHandle
import Derived.Stop.Joined
import Derived.SevenTiedAt
namespace Go.Proofs.YtodbppopnfabeaaGreatDoor.heardNames
open Go.ChangeShapes Go.WideShapes Go.ChangeAt Go.RowKit
open Go.ChangeMaps (open_string shut_string)
set_option linter.unusedVariables false

theorem own : ownKnob Tryz.prog.godebug = none := by kernel_rfl
theorem laidOut : laidOutB Tryz.prog = true := by kernel_rfl

noncomputable def ty0 : TypeId := ((Tryz.prog.globals[6]?).map (·.type)).getD 0
noncomputable def cells0 : List Clo.AV := (Clo.flat Tryz.prog 1000 ty0 Rows.laid_hustings_head_bits).getD []
theorem glob0 : Tryz.prog.globalNamed "hustings/head.bits" = some 6 := by kernel_rfl
theorem type0 : (Tryz.prog.globals[6]?).map (·.type) = some ty0 := by kernel_rfl
theorem flat0 : Clo.flat Tryz.prog 1000 ty0 Rows.laid_hustings_head_bits = some cells0 := by kernel_rfl
theorem some0 : 0 < cells0.length := of_decide_eq_true (by kernel_rfl)
noncomputable def lays : List (Nat × List Clo.AV) := [Clo.errCells, (6, cells0), (2, [.fa 337 (.p (1000 + 0) 0)]), (4, [.fa 337 (.p (1000 + 1) 0)]), (5, [.fa 337 (.p (1000 + 2) 0)]), (3, [.fa 337 (.p (1000 + 3) 0)]), (0, [.fa 337 (.p (1000 + 4) 0)]), (1, [.fa 337 (.p (1000 + 5) 0)])]
def spots : List (List Clo.AV) := [[.s 16 134788810691389226734960694816887829609], [.s 14 2462762988554948545731327938294889], [.s 23 10577590996467654001027404366040149388666520569850655849], [.s 17 39604895362886086274273025835156421768297], [.s 15 521287429830554471870773893670138985], [.s 19 2261124396749542497375433138100815942905787497]]

theorem isErr (u : TypeId) (hu : Tryz.prog.typeName? 3 u = some "*errors.errorString") : u = 337 := typeName_ptr_named (nm := "errors.errorString") (by kernel_rfl) (by kernel_rfl) (by decide) u (hu.trans (by kernel_rfl))
theorem eglob0 : Tryz.prog.globalNamed "hustings/heard.errMessage" = some 2 := by kernel_rfl
theorem etype0 : (Tryz.prog.globals[2]?).map (·.type) = some 67 := by kernel_rfl
theorem eglob1 : Tryz.prog.globalNamed "hustings/heard.errReply" = some 4 := by kernel_rfl
theorem etype1 : (Tryz.prog.globals[4]?).map (·.type) = some 67 := by kernel_rfl
theorem eglob2 : Tryz.prog.globalNamed "hustings/heard.errQuestion" = some 5 := by kernel_rfl
theorem etype2 : (Tryz.prog.globals[5]?).map (·.type) = some 67 := by kernel_rfl
theorem eglob3 : Tryz.prog.globalNamed "hustings/heard.errVerdict" = some 3 := by kernel_rfl
theorem etype3 : (Tryz.prog.globals[3]?).map (·.type) = some 67 := by kernel_rfl
theorem eglob4 : Tryz.prog.globalNamed "hustings/heard.errCut" = some 0 := by kernel_rfl
theorem etype4 : (Tryz.prog.globals[0]?).map (·.type) = some 67 := by kernel_rfl
theorem eglob5 : Tryz.prog.globalNamed "hustings/heard.errCode" = some 1 := by kernel_rfl
theorem etype5 : (Tryz.prog.globals[1]?).map (·.type) = some 67 := by kernel_rfl
theorem cellsE : Tryz.prog.cellsOf 356 = 1 := by kernel_rfl
theorem cellsS : Tryz.prog.cellsOf 9 = 1 := by kernel_rfl
theorem laid_of {W : World} (h : laidMetH Tryz.prog Rows.heardNamesRow.laid W) : ∃ zs, Clo.LaidQ W lays spots zs := by
  have h' : laidMet Tryz.prog [("hustings/head.bits", Rows.laid_hustings_head_bits), ("hustings/heard.errMessage", Rows.laid_hustings_heard_errMessage), ("hustings/heard.errReply", Rows.laid_hustings_heard_errReply), ("hustings/heard.errQuestion", Rows.laid_hustings_heard_errQuestion), ("hustings/heard.errVerdict", Rows.laid_hustings_heard_errVerdict), ("hustings/heard.errCut", Rows.laid_hustings_heard_errCut), ("hustings/heard.errCode", Rows.laid_hustings_heard_errCode)] W ∧ handlesMet Tryz.prog [("errors.errorType", Rows.laid_errors_errorType)] W := h
  have hE : HG W := Clo.hg_of h'.2
  have hP := h'.1
  obtain ⟨B0, O0, a0, b0, c0⟩ := Clo.laid_err hP (n := "hustings/heard.errMessage") (nm := "*errors.errorString") (text := [105, 116, 32, 105, 115, 32, 110, 111, 32, 109, 101, 115, 115, 97, 103, 101]) (show ("hustings/heard.errMessage", (Rows.laid_hustings_heard_errMessage : DataW Unit)) ∈ _ from by simp) eglob0 etype0 Tryz.underlying67 isErr Tryz.underlying337 Tryz.underlying356 rfl rfl Tryz.underlying9 cellsE cellsS
  obtain ⟨B1, O1, a1, b1, c1⟩ := Clo.laid_err hP (n := "hustings/heard.errReply") (nm := "*errors.errorString") (text := [105, 116, 32, 105, 115, 32, 110, 111, 32, 114, 101, 112, 108, 121]) (show ("hustings/heard.errReply", (Rows.laid_hustings_heard_errReply : DataW Unit)) ∈ _ from by simp) eglob1 etype1 Tryz.underlying67 isErr Tryz.underlying337 Tryz.underlying356 rfl rfl Tryz.underlying9 cellsE cellsS
  obtain ⟨B2, O2, a2, b2, c2⟩ := Clo.laid_err hP (n := "hustings/heard.errQuestion") (nm := "*errors.errorString") (text := [105, 116, 32, 104, 97, 115, 32, 97, 110, 111, 116, 104, 101, 114, 32, 113, 117, 101, 115, 116, 105, 111, 110]) (show ("hustings/heard.errQuestion", (Rows.laid_hustings_heard_errQuestion : DataW Unit)) ∈ _ from by simp) eglob2 etype2 Tryz.underlying67 isErr Tryz.underlying337 Tryz.underlying356 rfl rfl Tryz.underlying9 cellsE cellsS
  obtain ⟨B3, O3, a3, b3, c3⟩ := Clo.laid_err hP (n := "hustings/heard.errVerdict") (nm := "*errors.errorString") (text := [105, 116, 32, 104, 97, 115, 32, 110, 111, 32, 118, 101, 114, 100, 105, 99, 116]) (show ("hustings/heard.errVerdict", (Rows.laid_hustings_heard_errVerdict : DataW Unit)) ∈ _ from by simp) eglob3 etype3 Tryz.underlying67 isErr Tryz.underlying337 Tryz.underlying356 rfl rfl Tryz.underlying9 cellsE cellsS
  obtain ⟨B4, O4, a4, b4, c4⟩ := Clo.laid_err hP (n := "hustings/heard.errCut") (nm := "*errors.errorString") (text := [105, 116, 32, 105, 115, 32, 116, 114, 117, 110, 99, 97, 116, 101, 100]) (show ("hustings/heard.errCut", (Rows.laid_hustings_heard_errCut : DataW Unit)) ∈ _ from by simp) eglob4 etype4 Tryz.underlying67 isErr Tryz.underlying337 Tryz.underlying356 rfl rfl Tryz.underlying9 cellsE cellsS
  obtain ⟨B5, O5, a5, b5, c5⟩ := Clo.laid_err hP (n := "hustings/heard.errCode") (nm := "*errors.errorString") (text := [105, 116, 32, 104, 97, 115, 32, 97, 110, 111, 116, 104, 101, 114, 32, 99, 111, 100, 101]) (show ("hustings/heard.errCode", (Rows.laid_hustings_heard_errCode : DataW Unit)) ∈ _ from by simp) eglob5 etype5 Tryz.underlying67 isErr Tryz.underlying337 Tryz.underlying356 rfl rfl Tryz.underlying9 cellsE cellsS
  refine ⟨[(B0, O0), (B1, O1), (B2, O2), (B3, O3), (B4, O4), (B5, O5)], ⟨fun g cs hm => ?_, fun i cs hi => ?_, rfl⟩⟩
  · simp only [lays, List.mem_cons, List.not_mem_nil, or_false] at hm
    rcases hm with hm | hm | hm | hm | hm | hm | hm | hm
    · rw [show g = Clo.errCells.1 from congrArg Prod.fst hm, show cs = Clo.errCells.2 from congrArg Prod.snd hm]
      exact ⟨by decide, (Clo.errAt hE).cells _⟩
    · cases hm
      exact ⟨by decide, (Clo.laid_flat hP (n := "hustings/head.bits") (d := Rows.laid_hustings_head_bits) (by simp) glob0 type0 flat0 some0).cells _⟩
    · cases hm
      exact ⟨by decide, Clo.err_cells (i := 0) a0 rfl⟩
    · cases hm
      exact ⟨by decide, Clo.err_cells (i := 1) a1 rfl⟩
    · cases hm
      exact ⟨by decide, Clo.err_cells (i := 2) a2 rfl⟩
    · cases hm
      exact ⟨by decide, Clo.err_cells (i := 3) a3 rfl⟩
    · cases hm
      exact ⟨by decide, Clo.err_cells (i := 4) a4 rfl⟩
    · cases hm
      exact ⟨by decide, Clo.err_cells (i := 5) a5 rfl⟩
  · rcases i with _ | _ | _ | _ | _ | _ | _
    · obtain rfl : [.s 16 134788810691389226734960694816887829609] = cs := Option.some.inj hi
      exact ⟨(B0, O0), rfl, Clo.text_cells b0 (by kernel_rfl), c0⟩
    · obtain rfl : [.s 14 2462762988554948545731327938294889] = cs := Option.some.inj hi
      exact ⟨(B1, O1), rfl, Clo.text_cells b1 (by kernel_rfl), c1⟩
    · obtain rfl : [.s 23 10577590996467654001027404366040149388666520569850655849] = cs := Option.some.inj hi
      exact ⟨(B2, O2), rfl, Clo.text_cells b2 (by kernel_rfl), c2⟩
    · obtain rfl : [.s 17 39604895362886086274273025835156421768297] = cs := Option.some.inj hi
      exact ⟨(B3, O3), rfl, Clo.text_cells b3 (by kernel_rfl), c3⟩
    · obtain rfl : [.s 15 521287429830554471870773893670138985] = cs := Option.some.inj hi
      exact ⟨(B4, O4), rfl, Clo.text_cells b4 (by kernel_rfl), c4⟩
    · obtain rfl : [.s 19 2261124396749542497375433138100815942905787497] = cs := Option.some.inj hi
      exact ⟨(B5, O5), rfl, Clo.text_cells b5 (by kernel_rfl), c5⟩
    · simp [spots] at hi
/-- a world that meets the condition -/
noncomputable def laidWorld (os : Os) : World := Clo.layWorldQ (World.holding Tryz.prog os ⟨#[], #[], []⟩) lays spots 356
theorem laidWorld_met (os : Os) (args : Array Value) : laidMetH Tryz.prog Rows.heardNamesRow.laid ((laidWorld os).forCall (fun _ _ => 0) ⟨#[], args, []⟩).memory :=
  laidMetH_of_parts (laidMet_of_run' 1000 (by kernel_rfl) (by kernel_rfl)) (by kernel_rfl)
def args0 : List Clo.AV := [.ag [.s 4 7890178, .i .u16 1, .i .u16 1], .s 31 1305739167694874193682862412396778946752998738754004936886016]
def val0 : Clo.AV := (Clo.AV.ag [(Clo.AV.i Go.IntKind.u8 (Int.ofNat 3)), (Clo.AV.i Go.IntKind.u8 (Int.ofNat 0)), Clo.AV.sn, Clo.AV.sn, (Clo.AV.i Go.IntKind.u32 (Int.ofNat 0))])
set_option maxRecDepth 10000000 in
theorem mk0 : (Clo.layK lays .e fun h => Clo.layQ 1000 spots h fun h => Clo.runF Tryz.prog Clo.xIs 1000000 (1000 + spots.length) 8 args0 h (1000 + spots.length)) = .ok val0 := by kernel_rfl
theorem fact0 : Clo.FactQ Tryz.prog 8 lays spots args0 val0 := Clo.factQ_of Clo.plain Clo.xIs_ok Clo.mixed mk0 (by kernel_rfl) (by kernel_rfl)
def args1 : List Clo.AV := [.ag [.s 4 7890178, .i .u16 1, .i .u16 1], .s 31 1305739167694874193682862412396778946752998738754004937017088]
def val1 : Clo.AV := (Clo.AV.ag [(Clo.AV.i Go.IntKind.u8 (Int.ofNat 2)), (Clo.AV.i Go.IntKind.u8 (Int.ofNat 0)), Clo.AV.sn, Clo.AV.sn, (Clo.AV.i Go.IntKind.u32 (Int.ofNat 0))])
set_option maxRecDepth 10000000 in
theorem mk1 : (Clo.layK lays .e fun h => Clo.layQ 1000 spots h fun h => Clo.runF Tryz.prog Clo.xIs 1000000 (1000 + spots.length) 8 args1 h (1000 + spots.length)) = .ok val1 := by kernel_rfl
theorem fact1 : Clo.FactQ Tryz.prog 8 lays spots args1 val1 := Clo.factQ_of Clo.plain Clo.xIs_ok Clo.mixed mk1 (by kernel_rfl) (by kernel_rfl)
def args2 : List Clo.AV := [.ag [.s 4 7890178, .i .u16 1, .i .u16 1], .s 31 1305739167694874193682862412396778946752998738754004970440448]
def val2 : Clo.AV := (Clo.AV.ag [(Clo.AV.i Go.IntKind.u8 (Int.ofNat 2)), (Clo.AV.i Go.IntKind.u8 (Int.ofNat 0)), Clo.AV.sn, Clo.AV.sn, (Clo.AV.i Go.IntKind.u32 (Int.ofNat 0))])
set_option maxRecDepth 10000000 in
theorem mk2 : (Clo.layK lays .e fun h => Clo.layQ 1000 spots h fun h => Clo.runF Tryz.prog Clo.xIs 1000000 (1000 + spots.length) 8 args2 h (1000 + spots.length)) = .ok val2 := by kernel_rfl
theorem fact2 : Clo.FactQ Tryz.prog 8 lays spots args2 val2 := Clo.factQ_of Clo.plain Clo.xIs_ok Clo.mixed mk2 (by kernel_rfl) (by kernel_rfl)
def args3 : List Clo.AV := [.ag [.s 4 7890178, .i .u16 1, .i .u16 1], .s 31 1305739167694874193682862412396778946752998738754004928497408]
def val3 : Clo.AV := (Clo.AV.ag [(Clo.AV.i Go.IntKind.u8 (Int.ofNat 1)), (Clo.AV.i Go.IntKind.u8 (Int.ofNat 0)), Clo.AV.sn, Clo.AV.sn, (Clo.AV.i Go.IntKind.u32 (Int.ofNat 0))])
set_option maxRecDepth 10000000 in
theorem mk3 : (Clo.layK lays .e fun h => Clo.layQ 1000 spots h fun h => Clo.runF Tryz.prog Clo.xIs 1000000 (1000 + spots.length) 8 args3 h (1000 + spots.length)) = .ok val3 := by kernel_rfl
theorem fact3 : Clo.FactQ Tryz.prog 8 lays spots args3 val3 := Clo.factQ_of Clo.plain Clo.xIs_ok Clo.mixed mk3 (by kernel_rfl) (by kernel_rfl)
def args4 : List Clo.AV := [.ag [.s 4 7890178, .i .u16 1, .i .u16 1], .s 38 12780900970254505153299923419294511270565762481101865372022577546383372743515964577754906624]
def val4 : Clo.AV := (Clo.AV.ag [(Clo.AV.i Go.IntKind.u8 (Int.ofNat 1)), (Clo.AV.i Go.IntKind.u8 (Int.ofNat 0)), Clo.AV.sn, Clo.AV.sn, (Clo.AV.i Go.IntKind.u32 (Int.ofNat 0))])
set_option maxRecDepth 10000000 in
theorem mk4 : (Clo.layK lays .e fun h => Clo.layQ 1000 spots h fun h => Clo.runF Tryz.prog Clo.xIs 1000000 (1000 + spots.length) 8 args4 h (1000 + spots.length)) = .ok val4 := by kernel_rfl
theorem fact4 : Clo.FactQ Tryz.prog 8 lays spots args4 val4 := Clo.factQ_of Clo.plain Clo.xIs_ok Clo.mixed mk4 (by kernel_rfl) (by kernel_rfl)
def args5 : List Clo.AV := [.ag [.s 4 7890178, .i .u16 1, .i .u16 1], .s 38 12780900970254505153299923419294511270565762481104217403737542776184296761174002463303270400]
def val5 : Clo.AV := (Clo.AV.ag [(Clo.AV.i Go.IntKind.u8 (Int.ofNat 1)), (Clo.AV.i Go.IntKind.u8 (Int.ofNat 0)), Clo.AV.sn, Clo.AV.sn, (Clo.AV.i Go.IntKind.u32 (Int.ofNat 0))])
set_option maxRecDepth 10000000 in
theorem mk5 : (Clo.layK lays .e fun h => Clo.layQ 1000 spots h fun h => Clo.runF Tryz.prog Clo.xIs 1000000 (1000 + spots.length) 8 args5 h (1000 + spots.length)) = .ok val5 := by kernel_rfl
theorem fact5 : Clo.FactQ Tryz.prog 8 lays spots args5 val5 := Clo.factQ_of Clo.plain Clo.xIs_ok Clo.mixed mk5 (by kernel_rfl) (by kernel_rfl)
def args6 : List Clo.AV := [.ag [.s 4 7890178, .i .u16 1, .i .u16 1], .s 44 3597503802943587511834157879471270874276387702285030515508142026686043600519126635353318947974245724979200]
def val6 : Clo.AV := (Clo.AV.ag [(Clo.AV.i Go.IntKind.u8 (Int.ofNat 1)), (Clo.AV.i Go.IntKind.u8 (Int.ofNat 0)), Clo.AV.sn, Clo.AV.sn, (Clo.AV.i Go.IntKind.u32 (Int.ofNat 0))])
set_option maxRecDepth 10000000 in
theorem mk6 : (Clo.layK lays .e fun h => Clo.layQ 1000 spots h fun h => Clo.runF Tryz.prog Clo.xIs 1000000 (1000 + spots.length) 8 args6 h (1000 + spots.length)) = .ok val6 := by kernel_rfl
theorem fact6 : Clo.FactQ Tryz.prog 8 lays spots args6 val6 := Clo.factQ_of Clo.plain Clo.xIs_ok Clo.mixed mk6 (by kernel_rfl) (by kernel_rfl)
def args7 : List Clo.AV := [.ag [.s 4 7890178, .i .u16 1, .i .u16 1], .s 30 692854029913601298583084390445274500939347584870007747560812950891528192]
def val7 : Clo.AV := (Clo.AV.ag [(Clo.AV.i Go.IntKind.u8 (Int.ofNat 1)), (Clo.AV.i Go.IntKind.u8 (Int.ofNat 0)), Clo.AV.sn, Clo.AV.sn, (Clo.AV.i Go.IntKind.u32 (Int.ofNat 0))])
set_option maxRecDepth 10000000 in
theorem mk7 : (Clo.layK lays .e fun h => Clo.layQ 1000 spots h fun h => Clo.runF Tryz.prog Clo.xIs 1000000 (1000 + spots.length) 8 args7 h (1000 + spots.length)) = .ok val7 := by kernel_rfl
theorem fact7 : Clo.FactQ Tryz.prog 8 lays spots args7 val7 := Clo.factQ_of Clo.plain Clo.xIs_ok Clo.mixed mk7 (by kernel_rfl) (by kernel_rfl)
def args8 : List Clo.AV := [.ag [.s 4 7890178, .i .u16 1, .i .u16 1], .s 38 12780900970254505153299923419294511270565762481101865372017385249524837915887434081426210816]
def val8 : Clo.AV := (Clo.AV.ag [(Clo.AV.i Go.IntKind.u8 (Int.ofNat 1)), (Clo.AV.i Go.IntKind.u8 (Int.ofNat 0)), Clo.AV.sn, Clo.AV.sn, (Clo.AV.i Go.IntKind.u32 (Int.ofNat 0))])
set_option maxRecDepth 10000000 in
theorem mk8 : (Clo.layK lays .e fun h => Clo.layQ 1000 spots h fun h => Clo.runF Tryz.prog Clo.xIs 1000000 (1000 + spots.length) 8 args8 h (1000 + spots.length)) = .ok val8 := by kernel_rfl
theorem fact8 : Clo.FactQ Tryz.prog 8 lays spots args8 val8 := Clo.factQ_of Clo.plain Clo.xIs_ok Clo.mixed mk8 (by kernel_rfl) (by kernel_rfl)
def args9 : List Clo.AV := [.ag [.s 4 7890178, .i .u16 1, .i .u16 1], .s 38 12780900970254505153299923419294511270565762481101865372022577546383372743515964577755037696]
def val9 : Clo.AV := (Clo.AV.ag [(Clo.AV.i Go.IntKind.u8 (Int.ofNat 1)), (Clo.AV.i Go.IntKind.u8 (Int.ofNat 0)), Clo.AV.sn, Clo.AV.sn, (Clo.AV.i Go.IntKind.u32 (Int.ofNat 0))])
set_option maxRecDepth 10000000 in
theorem mk9 : (Clo.layK lays .e fun h => Clo.layQ 1000 spots h fun h => Clo.runF Tryz.prog Clo.xIs 1000000 (1000 + spots.length) 8 args9 h (1000 + spots.length)) = .ok val9 := by kernel_rfl
theorem fact9 : Clo.FactQ Tryz.prog 8 lays spots args9 val9 := Clo.factQ_of Clo.plain Clo.xIs_ok Clo.mixed mk9 (by kernel_rfl) (by kernel_rfl)
def args10 : List Clo.AV := [.ag [.s 4 7890178, .i .u16 1, .i .u16 1], .s 38 12780900970254505153299923419294511270565762481101865372017385249524837915887434081476149248]
def val10 : Clo.AV := (Clo.AV.ag [(Clo.AV.i Go.IntKind.u8 (Int.ofNat 2)), (Clo.AV.i Go.IntKind.u8 (Int.ofNat 0)), Clo.AV.sn, Clo.AV.sn, (Clo.AV.i Go.IntKind.u32 (Int.ofNat 0))])
set_option maxRecDepth 10000000 in
theorem mk10 : (Clo.layK lays .e fun h => Clo.layQ 1000 spots h fun h => Clo.runF Tryz.prog Clo.xIs 1000000 (1000 + spots.length) 8 args10 h (1000 + spots.length)) = .ok val10 := by kernel_rfl
theorem fact10 : Clo.FactQ Tryz.prog 8 lays spots args10 val10 := Clo.factQ_of Clo.plain Clo.xIs_ok Clo.mixed mk10 (by kernel_rfl) (by kernel_rfl)
def args11 : List Clo.AV := [.ag [.s 4 7890178, .i .u16 1, .i .u16 1], .s 38 12780900970254505153299923419294511270565762481101865372017385249524837915887434081476018176]
def val11 : Clo.AV := (Clo.AV.ag [(Clo.AV.i Go.IntKind.u8 (Int.ofNat 1)), (Clo.AV.i Go.IntKind.u8 (Int.ofNat 0)), Clo.AV.sn, Clo.AV.sn, (Clo.AV.i Go.IntKind.u32 (Int.ofNat 0))])
set_option maxRecDepth 10000000 in
theorem mk11 : (Clo.layK lays .e fun h => Clo.layQ 1000 spots h fun h => Clo.runF Tryz.prog Clo.xIs 1000000 (1000 + spots.length) 8 args11 h (1000 + spots.length)) = .ok val11 := by kernel_rfl
theorem fact11 : Clo.FactQ Tryz.prog 8 lays spots args11 val11 := Clo.factQ_of Clo.plain Clo.xIs_ok Clo.mixed mk11 (by kernel_rfl) (by kernel_rfl)
def args12 : List Clo.AV := [.ag [.s 4 7890178, .i .u16 1, .i .u16 1], .s 49 35836003450326121027202709190138361325002321177910374943644495309498608035141166455282299612941428719616]
def val12 : Clo.AV := (Clo.AV.ag [(Clo.AV.i Go.IntKind.u8 (Int.ofNat 2)), (Clo.AV.i Go.IntKind.u8 (Int.ofNat 0)), Clo.AV.sn, Clo.AV.sn, (Clo.AV.i Go.IntKind.u32 (Int.ofNat 0))])
set_option maxRecDepth 10000000 in
theorem mk12 : (Clo.layK lays .e fun h => Clo.layQ 1000 spots h fun h => Clo.runF Tryz.prog Clo.xIs 1000000 (1000 + spots.length) 8 args12 h (1000 + spots.length)) = .ok val12 := by kernel_rfl
theorem fact12 : Clo.FactQ Tryz.prog 8 lays spots args12 val12 := Clo.factQ_of Clo.plain Clo.xIs_ok Clo.mixed mk12 (by kernel_rfl) (by kernel_rfl)
def args13 : List Clo.AV := [.ag [.s 4 7890178, .i .u16 1, .i .u16 1], .s 20 5709077883734895589330263664362637596737667072]
def val13 : Clo.AV := (Clo.AV.ag [(Clo.AV.i Go.IntKind.u8 (Int.ofNat 3)), (Clo.AV.i Go.IntKind.u8 (Int.ofNat 3)), Clo.AV.sn, Clo.AV.sn, (Clo.AV.i Go.IntKind.u32 (Int.ofNat 0))])
set_option maxRecDepth 10000000 in
theorem mk13 : (Clo.layK lays .e fun h => Clo.layQ 1000 spots h fun h => Clo.runF Tryz.prog Clo.xIs 1000000 (1000 + spots.length) 8 args13 h (1000 + spots.length)) = .ok val13 := by kernel_rfl
theorem fact13 : Clo.FactQ Tryz.prog 8 lays spots args13 val13 := Clo.factQ_of Clo.plain Clo.xIs_ok Clo.mixed mk13 (by kernel_rfl) (by kernel_rfl)
def args14 : List Clo.AV := [.ag [.s 4 7890178, .i .u16 1, .i .u16 1], .s 0 0]
def val14 : Clo.AV := (Clo.AV.ag [(Clo.AV.i Go.IntKind.u8 (Int.ofNat 1)), (Clo.AV.i Go.IntKind.u8 (Int.ofNat 0)), Clo.AV.sn, Clo.AV.sn, (Clo.AV.i Go.IntKind.u32 (Int.ofNat 0))])
set_option maxRecDepth 10000000 in
theorem mk14 : (Clo.layK lays .e fun h => Clo.layQ 1000 spots h fun h => Clo.runF Tryz.prog Clo.xIs 1000000 (1000 + spots.length) 8 args14 h (1000 + spots.length)) = .ok val14 := by kernel_rfl
theorem fact14 : Clo.FactQ Tryz.prog 8 lays spots args14 val14 := Clo.factQ_of Clo.plain Clo.xIs_ok Clo.mixed mk14 (by kernel_rfl) (by kernel_rfl)
def args15 : List Clo.AV := [.ag [.s 4 7890178, .i .u16 1, .i .u16 1], .s 39 3174260736241376911041927631830649417222444709450634926359307362647524615148586002078058414080]
def val15 : Clo.AV := (Clo.AV.ag [(Clo.AV.i Go.IntKind.u8 (Int.ofNat 1)), (Clo.AV.i Go.IntKind.u8 (Int.ofNat 0)), Clo.AV.sn, Clo.AV.sn, (Clo.AV.i Go.IntKind.u32 (Int.ofNat 0))])
set_option maxRecDepth 10000000 in
theorem mk15 : (Clo.layK lays .e fun h => Clo.layQ 1000 spots h fun h => Clo.runF Tryz.prog Clo.xIs 1000000 (1000 + spots.length) 8 args15 h (1000 + spots.length)) = .ok val15 := by kernel_rfl
theorem fact15 : Clo.FactQ Tryz.prog 8 lays spots args15 val15 := Clo.factQ_of Clo.plain Clo.xIs_ok Clo.mixed mk15 (by kernel_rfl) (by kernel_rfl)
def args16 : List Clo.AV := [.ag [.s 2 30821, .i .u16 1, .i .u16 1], .s 38 12780900970254505153299923419294511270565762481101865372017385249524837915887434081425686528]
def val16 : Clo.AV := (Clo.AV.ag [(Clo.AV.i Go.IntKind.u8 (Int.ofNat 1)), (Clo.AV.i Go.IntKind.u8 (Int.ofNat 0)), Clo.AV.sn, Clo.AV.sn, (Clo.AV.i Go.IntKind.u32 (Int.ofNat 0))])
set_option maxRecDepth 10000000 in
theorem mk16 : (Clo.layK lays .e fun h => Clo.layQ 1000 spots h fun h => Clo.runF Tryz.prog Clo.xIs 1000000 (1000 + spots.length) 8 args16 h (1000 + spots.length)) = .ok val16 := by kernel_rfl
theorem fact16 : Clo.FactQ Tryz.prog 8 lays spots args16 val16 := Clo.factQ_of Clo.plain Clo.xIs_ok Clo.mixed mk16 (by kernel_rfl) (by kernel_rfl)
def tab : List (List Clo.AV × Clo.AV) := [(args0, val0), (args1, val1), (args2, val2), (args3, val3), (args4, val4), (args5, val5), (args6, val6), (args7, val7), (args8, val8), (args9, val9), (args10, val10), (args11, val11), (args12, val12), (args13, val13), (args14, val14), (args15, val15), (args16, val16)]
noncomputable def xMemo : Clo.XT := Clo.addB Clo.xIs 8 (Clo.memoQ Tryz.prog Clo.xIs 1000000 8 lays spots tab)
theorem xMemo_ok : Clo.XOK Tryz.prog xMemo := Clo.addB_ok Clo.xIs_ok (Clo.memoQ_ok Clo.plain Clo.xIs_ok Clo.mixed (by kernel_rfl) (by kernel_rfl) (show Clo.FactsQ _ _ _ _ tab from ⟨fact0, fact1, fact2, fact3, fact4, fact5, fact6, fact7, fact8, fact9, fact10, fact11, fact12, fact13, fact14, fact15, fact16, trivial⟩))
set_option maxRecDepth 10000000 in
theorem runs : (Clo.layK lays .e fun h => Clo.layQ 1000 spots h fun h => Clo.runF Tryz.prog xMemo 1000000 (1000 + spots.length) 3 [] h (1000 + spots.length)) = .ok (.b true) := by kernel_rfl
theorem walk (w : World) {zs : List (Nat × Nat)} (hL : Clo.LaidQ w lays spots zs) :
    Calls Tryz.prog 3 #[] w fun e w' => e = .returned (.bool true) ∧ Below w.heap.size w w' :=
  Clo.calls_laidQ Clo.plain xMemo_ok Clo.mixed Tryz.func3 rfl runs hL

set_option maxRecDepth 100000 in
theorem lifted (os : Os) (started : os.Started) (H : Type) (enc : TypeId × Value → H) :
    ReturnsInHanded {} Tryz.checked os 3 .any (fun w args => (Rows.heardNamesSpec.pre enc Tryz.prog Tryz.f3 [] false w args ∧ laidMetH Tryz.prog Rows.heardNamesRow.laid w) ∧ sizedMet enc Tryz.prog Tryz.f3 (OpenSpec.ofChange Rows.heardNamesSpec) false w args) (Rows.heardNamesSpec.post enc Tryz.prog Tryz.f3 false true false false) := by
  refine returnsInHanded_of_change_and (C := Tryz.checked) (X := fun w _ => laidMetH Tryz.prog Rows.heardNamesRow.laid w) (fun _ _ _ hh h => h.of_heap hh) own started (by kernel_rfl) Tryz.func3
    (ChangeSpec.witness_at (enc := enc) (C := Tryz.checked) (os := os) (X := fun w _ => laidMetH Tryz.prog Rows.heardNamesRow.laid w) false (laidWorld os) #[] 8 rfl (by kernel_rfl) (by kernel_rfl) (by kernel_rfl) (by kernel_rfl) (by kernel_rfl) (laidWorld_met os _)) ?_
  intro W base args ds gs before hval0 hW _ _ hLaid _
  have hW' := hW
  obtain ⟨p, q, hA0, hV, rfl, hfz, hnd⟩ := hW
  have hA : DataW.TrodAll enc Tryz.prog W 0 (fun _ => true) true Tryz.f3.params.toList args.toList ds p := hA0
  rw [Tryz.params3] at hA
  obtain ⟨hargs, rfl, rfl⟩ := trodAll_nil hA
  obtain rfl : args = #[] := by cases args; simp_all
  obtain ⟨rfl, rfl⟩ := trodVars_none hV
  clear hA0 hval0
  obtain ⟨zs, hAs⟩ := laid_of hLaid
  refine (walk W hAs).mono fun e W' ⟨he, bel⟩ => ?_
  subst he
  exact ⟨_, rfl, _, _, _, [], _, [], hW', trodAll_mk1 (shut_bool Tryz.underlying4 _), trodAll_mk0, rfl, bel.frame _, fun h => by cases h⟩

theorem over : Rows.heardNamesRow.holds Tryz.pinned (OpenSpec.ofChange Rows.heardNamesSpec) :=
  OpenClaim.holds_of_wide 3 Tryz.f3 rfl rfl rfl rfl rfl rfl rfl ⟨rfl, rfl, rfl, rfl, rfl⟩ rfl rfl rfl rfl rfl (by kernel_rfl) Tryz.func3 (by kernel_rfl)
    (of_decide_eq_true (by kernel_rfl)) (by unfold Func.isWrapper; first | (rw [if_pos (by decide +kernel)]; kernel_rfl) | (rw [if_neg (by decide +kernel)]; exact ⟨rfl, rfl⟩))
    (fun os started H enc _ => lifted os started H enc)

theorem plainly (f : FuncId) (fn : Func) (hf : Tryz.pinned.checked.prog.funcNamed "hustings/hustingslaw24.HeardNames" = some f) (hfn : Tryz.pinned.checked.prog.funcs[f]? = some fn) :
    true = Tryz.pinned.checked.prog.looks [] ∧ ∀ (j : Nat) t, fn.params[j]? = some t → Tryz.pinned.checked.prog.wantsStandIn t = false := by
  obtain rfl : f = 3 := Option.some.inj ((show Tryz.prog.funcNamed "hustings/hustingslaw24.HeardNames" = some 3 by kernel_rfl).symm.trans hf) |>.symm
  obtain rfl : fn = Tryz.f3 := (Option.some.inj (Tryz.func3.symm.trans hfn)).symm
  refine ⟨by kernel_rfl, fun j t ht => ?_⟩
  rw [Tryz.params3] at ht
  simp at ht

/-- the card -/
theorem proved : Rows.HeardNamesCardSaid :=
  Claim7.holds_tied_plain_at .later [] _ _ _ _ over (fun _ h => by cases h) (by kernel_rfl) (fun _ h => by cases h) heardNames_row_tie rfl ⟨rfl, rfl⟩ (by kernel_rfl) rfl plainly (by kernel_rfl)
#print axioms proved
end Go.Proofs.YtodbppopnfabeaaGreatDoor.heardNames
