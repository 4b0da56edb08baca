/-
  No cell of these rows narrows 'for every input' (looked for: loops, veiled, ifaces, maps, wideKeys, modest, calm, conditions, laid).
  DERIVED. THE GIVEN ROWS OF THIS SEAT. 9 by the template 'for every input the law returns true; each argument reads behind the call as it read before'; 0 by the template 'total and deterministic' (their statements: YtmimdiehbfgfjaaTotals.lean).
  GIVEN WITH THE SEED: the statements are not yours to turn. If you find one false, say at which input.
  Laid BY PROGRAM, IN A SANDBOX (cutbox-rows.mjs): the forced cells as the released guide's own fill.sh prints them over the translation f0e9fdffb1d6c481… (all of the seat's roots in one cut). By AI agents, Wed Nov 11 2026. No macro, syntax, notation, axiom, sorry.
-/
import Derived.Test.YtmimdiehbfgfjaaChecked
import GoSem.Claim
import GoSem.ClaimJoined
import GoSem.ClaimMapViews
import Derived.JoinedTies
import Derived.KernelRfl
namespace Go.Proofs.Ytmimdiehbfgfjaa
/- THE CELL 'sum', in the pinned program and in every row, IS THE sha256 OF THE DUMP (.gsa) THAT YtmimdiehbfgfjaaProg.lean LOADS. Nothing in Lean hashes anything: it is a label: what it is worth is what the hold of that sum in a sandbox is worth. -/
noncomputable def Try.pinned : Pinned := { name := "ytmimdiehbfgfjaa", sum := "f0e9fdffb1d6c481ce3c83f098db25a8596692e446a625bbdab28f36556afc30", checked := Try.checked }
namespace Rows
def none {H : Type} : Left H := { results := [], args := [] }

/-- 'hustingslaw01.NameNames': WHATEVER THE INPUT: true; the input reads as it did. -/
def nameNamesSpec : ChangeSpec := { name := "nameNames", fn := fun _ => fun
  | [] => { results := [.lit (.bool true)], args := [] }
  | _ => none }
def nameNamesRow : OpenClaim := { program := "ytmimdiehbfgfjaa", sum := "f0e9fdffb1d6c481ce3c83f098db25a8596692e446a625bbdab28f36556afc30", func := "hustings/hustingslaw01.NameNames", spec := "nameNames", inPlace := ["internal/abi.NoEscape", "internal/bytealg.abigen_runtime_cmpstring"], apart := false }
def NameNamesSaid : Prop := nameNamesRow.holds Try.pinned (OpenSpec.ofChange nameNamesSpec)

/-- ITS FALSE NEIGHBOUR: 'it returns false'. Refute it at one input. -/
def nameNamesWrong : ChangeSpec := { name := "nameNames", fn := fun _ => fun
  | [] => { results := [.lit (.bool false)], args := [] }
  | _ => none }
def NameNamesWrongFalsely : Prop := nameNamesRow.holds Try.pinned (OpenSpec.ofChange nameNamesWrong)

/-- 'hustingslaw04.CompNames': WHATEVER THE INPUT: true; the input reads as it did. -/
def compNamesSpec : ChangeSpec := { name := "compNames", fn := fun _ => fun
  | [] => { results := [.lit (.bool true)], args := [] }
  | _ => none }
def compNamesRow : OpenClaim := { program := "ytmimdiehbfgfjaa", sum := "f0e9fdffb1d6c481ce3c83f098db25a8596692e446a625bbdab28f36556afc30", func := "hustings/hustingslaw04.CompNames", spec := "compNames", apart := false }
def CompNamesSaid : Prop := compNamesRow.holds Try.pinned (OpenSpec.ofChange compNamesSpec)

/-- ITS FALSE NEIGHBOUR: 'it returns false'. Refute it at one input. -/
def compNamesWrong : ChangeSpec := { name := "compNames", fn := fun _ => fun
  | [] => { results := [.lit (.bool false)], args := [] }
  | _ => none }
def CompNamesWrongFalsely : Prop := compNamesRow.holds Try.pinned (OpenSpec.ofChange compNamesWrong)

/-- 'hustingslaw05.DataNames': WHATEVER THE INPUT: true; the input reads as it did. -/
def dataNamesSpec : ChangeSpec := { name := "dataNames", fn := fun _ => fun
  | [] => { results := [.lit (.bool true)], args := [] }
  | _ => none }
def dataNamesRow : OpenClaim := { program := "ytmimdiehbfgfjaa", sum := "f0e9fdffb1d6c481ce3c83f098db25a8596692e446a625bbdab28f36556afc30", func := "hustings/hustingslaw05.DataNames", spec := "dataNames", unfollowed := true, recurses := true, apart := false }
def DataNamesSaid : Prop := dataNamesRow.holds Try.pinned (OpenSpec.ofChange dataNamesSpec)

/-- ITS FALSE NEIGHBOUR: 'it returns false'. Refute it at one input. -/
def dataNamesWrong : ChangeSpec := { name := "dataNames", fn := fun _ => fun
  | [] => { results := [.lit (.bool false)], args := [] }
  | _ => none }
def DataNamesWrongFalsely : Prop := dataNamesRow.holds Try.pinned (OpenSpec.ofChange dataNamesWrong)

/-- 'hustingslaw08.RrsetNames': WHATEVER THE INPUT: true; the input reads as it did. -/
def rrsetNamesSpec : ChangeSpec := { name := "rrsetNames", fn := fun _ => fun
  | [] => { results := [.lit (.bool true)], args := [] }
  | _ => none }
def rrsetNamesRow : OpenClaim := { program := "ytmimdiehbfgfjaa", sum := "f0e9fdffb1d6c481ce3c83f098db25a8596692e446a625bbdab28f36556afc30", func := "hustings/hustingslaw08.RrsetNames", spec := "rrsetNames", inPlace := ["internal/bytealg.abigen_runtime_cmpstring"], unfollowed := true, recurses := true, apart := false }
def RrsetNamesSaid : Prop := rrsetNamesRow.holds Try.pinned (OpenSpec.ofChange rrsetNamesSpec)

/-- ITS FALSE NEIGHBOUR: 'it returns false'. Refute it at one input. -/
def rrsetNamesWrong : ChangeSpec := { name := "rrsetNames", fn := fun _ => fun
  | [] => { results := [.lit (.bool false)], args := [] }
  | _ => none }
def RrsetNamesWrongFalsely : Prop := rrsetNamesRow.holds Try.pinned (OpenSpec.ofChange rrsetNamesWrong)

/-- 'hustingslaw18.ZoneNames': WHATEVER THE INPUT: true; the input reads as it did. -/
def zoneNamesSpec : ChangeSpec := { name := "zoneNames", fn := fun _ => fun
  | [] => { results := [.lit (.bool true)], args := [] }
  | _ => none }
def zoneNamesRow : OpenClaim := { program := "ytmimdiehbfgfjaa", sum := "f0e9fdffb1d6c481ce3c83f098db25a8596692e446a625bbdab28f36556afc30", func := "hustings/hustingslaw18.ZoneNames", spec := "zoneNames", apart := false }
def ZoneNamesSaid : Prop := zoneNamesRow.holds Try.pinned (OpenSpec.ofChange zoneNamesSpec)

/-- ITS FALSE NEIGHBOUR: 'it returns false'. Refute it at one input. -/
def zoneNamesWrong : ChangeSpec := { name := "zoneNames", fn := fun _ => fun
  | [] => { results := [.lit (.bool false)], args := [] }
  | _ => none }
def ZoneNamesWrongFalsely : Prop := zoneNamesRow.holds Try.pinned (OpenSpec.ofChange zoneNamesWrong)

/-- 'hustingslaw10.SoaNames': WHATEVER THE INPUT: true; the input reads as it did. -/
def soaNamesSpec : ChangeSpec := { name := "soaNames", fn := fun _ => fun
  | [] => { results := [.lit (.bool true)], args := [] }
  | _ => none }
def soaNamesRow : OpenClaim := { program := "ytmimdiehbfgfjaa", sum := "f0e9fdffb1d6c481ce3c83f098db25a8596692e446a625bbdab28f36556afc30", func := "hustings/hustingslaw10.SoaNames", spec := "soaNames", unfollowed := true, recurses := true, apart := false }
def SoaNamesSaid : Prop := soaNamesRow.holds Try.pinned (OpenSpec.ofChange soaNamesSpec)

/-- ITS FALSE NEIGHBOUR: 'it returns false'. Refute it at one input. -/
def soaNamesWrong : ChangeSpec := { name := "soaNames", fn := fun _ => fun
  | [] => { results := [.lit (.bool false)], args := [] }
  | _ => none }
def SoaNamesWrongFalsely : Prop := soaNamesRow.holds Try.pinned (OpenSpec.ofChange soaNamesWrong)

/-- 'hustingslaw09.ChainNames': WHATEVER THE INPUT: true; the input reads as it did. -/
def chainNamesSpec : ChangeSpec := { name := "chainNames", fn := fun _ => fun
  | [] => { results := [.lit (.bool true)], args := [] }
  | _ => none }
def chainNamesRow : OpenClaim := { program := "ytmimdiehbfgfjaa", sum := "f0e9fdffb1d6c481ce3c83f098db25a8596692e446a625bbdab28f36556afc30", func := "hustings/hustingslaw09.ChainNames", spec := "chainNames", apart := false }
def ChainNamesSaid : Prop := chainNamesRow.holds Try.pinned (OpenSpec.ofChange chainNamesSpec)

/-- ITS FALSE NEIGHBOUR: 'it returns false'. Refute it at one input. -/
def chainNamesWrong : ChangeSpec := { name := "chainNames", fn := fun _ => fun
  | [] => { results := [.lit (.bool false)], args := [] }
  | _ => none }
def ChainNamesWrongFalsely : Prop := chainNamesRow.holds Try.pinned (OpenSpec.ofChange chainNamesWrong)

/-- 'hustingslaw11.VerdictNames': WHATEVER THE INPUT: true; the input reads as it did. -/
def verdictNamesSpec : ChangeSpec := { name := "verdictNames", fn := fun _ => fun
  | [] => { results := [.lit (.bool true)], args := [] }
  | _ => none }
def verdictNamesRow : OpenClaim := { program := "ytmimdiehbfgfjaa", sum := "f0e9fdffb1d6c481ce3c83f098db25a8596692e446a625bbdab28f36556afc30", func := "hustings/hustingslaw11.VerdictNames", spec := "verdictNames", inPlace := ["internal/bytealg.abigen_runtime_cmpstring"], unfollowed := true, recurses := true, apart := false }
def VerdictNamesSaid : Prop := verdictNamesRow.holds Try.pinned (OpenSpec.ofChange verdictNamesSpec)

/-- ITS FALSE NEIGHBOUR: 'it returns false'. Refute it at one input. -/
def verdictNamesWrong : ChangeSpec := { name := "verdictNames", fn := fun _ => fun
  | [] => { results := [.lit (.bool false)], args := [] }
  | _ => none }
def VerdictNamesWrongFalsely : Prop := verdictNamesRow.holds Try.pinned (OpenSpec.ofChange verdictNamesWrong)

/-- 'hustingslaw20.OrderNames': WHATEVER THE INPUT: true; the input reads as it did. -/
def orderNamesSpec : ChangeSpec := { name := "orderNames", fn := fun _ => fun
  | [] => { results := [.lit (.bool true)], args := [] }
  | _ => none }
def orderNamesRow : OpenClaim := { program := "ytmimdiehbfgfjaa", sum := "f0e9fdffb1d6c481ce3c83f098db25a8596692e446a625bbdab28f36556afc30", func := "hustings/hustingslaw20.OrderNames", spec := "orderNames", unfollowed := true, recurses := true, apart := false }
def OrderNamesSaid : Prop := orderNamesRow.holds Try.pinned (OpenSpec.ofChange orderNamesSpec)

/-- ITS FALSE NEIGHBOUR: 'it returns false'. Refute it at one input. -/
def orderNamesWrong : ChangeSpec := { name := "orderNames", fn := fun _ => fun
  | [] => { results := [.lit (.bool false)], args := [] }
  | _ => none }
def OrderNamesWrongFalsely : Prop := orderNamesRow.holds Try.pinned (OpenSpec.ofChange orderNamesWrong)

/- THE SECOND FORM. 'bulk': how many values and letters a reading holds, each counted each time it is reached (what is shared counts as often as it is met; a slice's spare places count too). A statement '..UptoSaid' is the law's where the arguments, and the package variables that the reading takes, are together of bulk at most 1048576: NARROWER than '..Said'. Prove '..Said' where nothing that the law and all that it calls make is longer than what came in: it says more and counts as full. Else prove '..UptoSaid'. A law counts once. -/
mutual
def uptoBulk {H : Type} : DataW H → Nat
  | .lit (.string bytes) => bytes.length + 1
  | .lit _ => 1
  | .nil => 1
  | .ptr d => uptoBulk d + 1
  | .slice elems spare => uptoBulkAll elems + uptoBulkAll spare + 1
  | .agg parts => uptoBulkAll parts + 1
  | .iface _ d => uptoBulk d + 1
  | .map entries => uptoBulkEntries entries + 1
  | .held _ => 1
def uptoBulkAll {H : Type} : List (DataW H) → Nat
  | [] => 0
  | d :: r => uptoBulk d + uptoBulkAll r
def uptoBulkEntries {H : Type} : List (Lit × DataW H) → Nat
  | [] => 0
  | x :: r => uptoBulkEntry x + uptoBulkEntries r
def uptoBulkEntry {H : Type} : Lit × DataW H → Nat
  | (.string bytes, d) => bytes.length + uptoBulk d + 1
  | (_, d) => uptoBulk d + 1
 end
def uptoSmall : (H : Type) → List (DataW H) → Bool := fun _ ds => decide (uptoBulkAll ds ≤ 1048576)
def OpenSpec.upto (s : _root_.Go.ChangeSpec) : _root_.Go.OpenSpec := { _root_.Go.OpenSpec.ofChange s with cond := some uptoSmall }

/-- 'hustingslaw01.NameNames', WHERE WHAT IT READS IS OF BULK AT MOST 1048576: true; the input reads as it did. -/
def nameNamesUptoRow : OpenClaim := { program := "ytmimdiehbfgfjaa", sum := "f0e9fdffb1d6c481ce3c83f098db25a8596692e446a625bbdab28f36556afc30", func := "hustings/hustingslaw01.NameNames", spec := "nameNames", inPlace := ["internal/abi.NoEscape", "internal/bytealg.abigen_runtime_cmpstring"], apart := false, narrowed := true }
def NameNamesUptoSaid : Prop := nameNamesUptoRow.holds Try.pinned (OpenSpec.upto nameNamesSpec)

/-- 'hustingslaw04.CompNames', WHERE WHAT IT READS IS OF BULK AT MOST 1048576: true; the input reads as it did. -/
def compNamesUptoRow : OpenClaim := { program := "ytmimdiehbfgfjaa", sum := "f0e9fdffb1d6c481ce3c83f098db25a8596692e446a625bbdab28f36556afc30", func := "hustings/hustingslaw04.CompNames", spec := "compNames", apart := false, narrowed := true }
def CompNamesUptoSaid : Prop := compNamesUptoRow.holds Try.pinned (OpenSpec.upto compNamesSpec)

/-- 'hustingslaw05.DataNames', WHERE WHAT IT READS IS OF BULK AT MOST 1048576: true; the input reads as it did. -/
def dataNamesUptoRow : OpenClaim := { program := "ytmimdiehbfgfjaa", sum := "f0e9fdffb1d6c481ce3c83f098db25a8596692e446a625bbdab28f36556afc30", func := "hustings/hustingslaw05.DataNames", spec := "dataNames", unfollowed := true, recurses := true, apart := false, narrowed := true }
def DataNamesUptoSaid : Prop := dataNamesUptoRow.holds Try.pinned (OpenSpec.upto dataNamesSpec)

/-- 'hustingslaw08.RrsetNames', WHERE WHAT IT READS IS OF BULK AT MOST 1048576: true; the input reads as it did. -/
def rrsetNamesUptoRow : OpenClaim := { program := "ytmimdiehbfgfjaa", sum := "f0e9fdffb1d6c481ce3c83f098db25a8596692e446a625bbdab28f36556afc30", func := "hustings/hustingslaw08.RrsetNames", spec := "rrsetNames", inPlace := ["internal/bytealg.abigen_runtime_cmpstring"], unfollowed := true, recurses := true, apart := false, narrowed := true }
def RrsetNamesUptoSaid : Prop := rrsetNamesUptoRow.holds Try.pinned (OpenSpec.upto rrsetNamesSpec)

/-- 'hustingslaw18.ZoneNames', WHERE WHAT IT READS IS OF BULK AT MOST 1048576: true; the input reads as it did. -/
def zoneNamesUptoRow : OpenClaim := { program := "ytmimdiehbfgfjaa", sum := "f0e9fdffb1d6c481ce3c83f098db25a8596692e446a625bbdab28f36556afc30", func := "hustings/hustingslaw18.ZoneNames", spec := "zoneNames", apart := false, narrowed := true }
def ZoneNamesUptoSaid : Prop := zoneNamesUptoRow.holds Try.pinned (OpenSpec.upto zoneNamesSpec)

/-- 'hustingslaw10.SoaNames', WHERE WHAT IT READS IS OF BULK AT MOST 1048576: true; the input reads as it did. -/
def soaNamesUptoRow : OpenClaim := { program := "ytmimdiehbfgfjaa", sum := "f0e9fdffb1d6c481ce3c83f098db25a8596692e446a625bbdab28f36556afc30", func := "hustings/hustingslaw10.SoaNames", spec := "soaNames", unfollowed := true, recurses := true, apart := false, narrowed := true }
def SoaNamesUptoSaid : Prop := soaNamesUptoRow.holds Try.pinned (OpenSpec.upto soaNamesSpec)

/-- 'hustingslaw09.ChainNames', WHERE WHAT IT READS IS OF BULK AT MOST 1048576: true; the input reads as it did. -/
def chainNamesUptoRow : OpenClaim := { program := "ytmimdiehbfgfjaa", sum := "f0e9fdffb1d6c481ce3c83f098db25a8596692e446a625bbdab28f36556afc30", func := "hustings/hustingslaw09.ChainNames", spec := "chainNames", apart := false, narrowed := true }
def ChainNamesUptoSaid : Prop := chainNamesUptoRow.holds Try.pinned (OpenSpec.upto chainNamesSpec)

/-- 'hustingslaw11.VerdictNames', WHERE WHAT IT READS IS OF BULK AT MOST 1048576: true; the input reads as it did. -/
def verdictNamesUptoRow : OpenClaim := { program := "ytmimdiehbfgfjaa", sum := "f0e9fdffb1d6c481ce3c83f098db25a8596692e446a625bbdab28f36556afc30", func := "hustings/hustingslaw11.VerdictNames", spec := "verdictNames", inPlace := ["internal/bytealg.abigen_runtime_cmpstring"], unfollowed := true, recurses := true, apart := false, narrowed := true }
def VerdictNamesUptoSaid : Prop := verdictNamesUptoRow.holds Try.pinned (OpenSpec.upto verdictNamesSpec)

/-- 'hustingslaw20.OrderNames', WHERE WHAT IT READS IS OF BULK AT MOST 1048576: true; the input reads as it did. -/
def orderNamesUptoRow : OpenClaim := { program := "ytmimdiehbfgfjaa", sum := "f0e9fdffb1d6c481ce3c83f098db25a8596692e446a625bbdab28f36556afc30", func := "hustings/hustingslaw20.OrderNames", spec := "orderNames", unfollowed := true, recurses := true, apart := false, narrowed := true }
def OrderNamesUptoSaid : Prop := orderNamesUptoRow.holds Try.pinned (OpenSpec.upto orderNamesSpec)

end Rows
end Go.Proofs.Ytmimdiehbfgfjaa
