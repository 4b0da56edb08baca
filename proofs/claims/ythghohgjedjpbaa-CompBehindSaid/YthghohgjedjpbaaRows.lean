/-
  No cell of these rows narrows 'for every input' (looked for: loops, veiled, ifaces, maps, wideKeys, modest, calm, conditions, laid).
  DERIVED. THE GIVEN ROWS OF THIS SEAT. 6 by the template 'for every input the law returns true; each argument reads behind the call as it read before'; 0 by the template 'total and deterministic' (their statements: YthghohgjedjpbaaTotals.lean).
  GIVEN WITH THE SEED: the statements are not yours to turn. If you find one false, say at which input.
  Laid BY PROGRAM, IN A SANDBOX (cutbox-rows.mjs): the forced cells as the released guide's own fill.sh prints them over the translation 31fe3d82049ef003… (all of the seat's roots in one cut). By AI agents, Wed Nov 11 2026. No macro, syntax, notation, axiom, sorry.
-/
import Derived.Test.YthghohgjedjpbaaChecked
import GoSem.Claim
import GoSem.ClaimJoined
import GoSem.ClaimMapViews
import Derived.JoinedTies
import Derived.KernelRfl
namespace Go.Proofs.Ythghohgjedjpbaa
/- THE CELL 'sum', in the pinned program and in every row, IS THE sha256 OF THE DUMP (.gsa) THAT YthghohgjedjpbaaProg.lean LOADS. Nothing in Lean hashes anything: it is a label: what it is worth is what the hold of that sum in a sandbox is worth. -/
noncomputable def Try.pinned : Pinned := { name := "ythghohgjedjpbaa", sum := "31fe3d82049ef0038809fe49f929dd22f3ba39b06e660c12a426b275638681f4", checked := Try.checked }
namespace Rows
def none {H : Type} : Left H := { results := [], args := [] }

/-- 'hustingslaw04.CompReads': WHATEVER THE INPUT: true; the input reads as it did. -/
def compReadsSpec : ChangeSpec := { name := "compReads", fn := fun _ => fun
  | [d1, d2] => { results := [.lit (.bool true)], args := [d1, d2] }
  | _ => none }
def compReadsRow : OpenClaim := { program := "ythghohgjedjpbaa", sum := "31fe3d82049ef0038809fe49f929dd22f3ba39b06e660c12a426b275638681f4", func := "hustings/hustingslaw04.CompReads", spec := "compReads", apart := false }
def CompReadsSaid : Prop := compReadsRow.holds Try.pinned (OpenSpec.ofChange compReadsSpec)

/-- ITS FALSE NEIGHBOUR: 'it returns false'. Refute it at one input. -/
def compReadsWrong : ChangeSpec := { name := "compReads", fn := fun _ => fun
  | [d1, d2] => { results := [.lit (.bool false)], args := [d1, d2] }
  | _ => none }
def CompReadsWrongFalsely : Prop := compReadsRow.holds Try.pinned (OpenSpec.ofChange compReadsWrong)

/-- 'hustingslaw04.CompBehind': WHATEVER THE INPUT: true; the input reads as it did. -/
def compBehindSpec : ChangeSpec := { name := "compBehind", fn := fun _ => fun
  | [d1, d2, d3, d4] => { results := [.lit (.bool true)], args := [d1, d2, d3, d4] }
  | _ => none }
def compBehindRow : OpenClaim := { program := "ythghohgjedjpbaa", sum := "31fe3d82049ef0038809fe49f929dd22f3ba39b06e660c12a426b275638681f4", func := "hustings/hustingslaw04.CompBehind", spec := "compBehind", apart := false }
def CompBehindSaid : Prop := compBehindRow.holds Try.pinned (OpenSpec.ofChange compBehindSpec)

/-- ITS FALSE NEIGHBOUR: 'it returns false'. Refute it at one input. -/
def compBehindWrong : ChangeSpec := { name := "compBehind", fn := fun _ => fun
  | [d1, d2, d3, d4] => { results := [.lit (.bool false)], args := [d1, d2, d3, d4] }
  | _ => none }
def CompBehindWrongFalsely : Prop := compBehindRow.holds Try.pinned (OpenSpec.ofChange compBehindWrong)

/-- 'hustingslaw04.CompAs': WHATEVER THE INPUT: true; the input reads as it did. -/
def compAsSpec : ChangeSpec := { name := "compAs", fn := fun _ => fun
  | [d1, d2, d3, d4] => { results := [.lit (.bool true)], args := [d1, d2, d3, d4] }
  | _ => none }
def compAsRow : OpenClaim := { program := "ythghohgjedjpbaa", sum := "31fe3d82049ef0038809fe49f929dd22f3ba39b06e660c12a426b275638681f4", func := "hustings/hustingslaw04.CompAs", spec := "compAs", apart := false }
def CompAsSaid : Prop := compAsRow.holds Try.pinned (OpenSpec.ofChange compAsSpec)

/-- ITS FALSE NEIGHBOUR: 'it returns false'. Refute it at one input. -/
def compAsWrong : ChangeSpec := { name := "compAs", fn := fun _ => fun
  | [d1, d2, d3, d4] => { results := [.lit (.bool false)], args := [d1, d2, d3, d4] }
  | _ => none }
def CompAsWrongFalsely : Prop := compAsRow.holds Try.pinned (OpenSpec.ofChange compAsWrong)

/-- 'hustingslaw04.CompBack': WHATEVER THE INPUT: true; the input reads as it did. -/
def compBackSpec : ChangeSpec := { name := "compBack", fn := fun _ => fun
  | [d] => { results := [.lit (.bool true)], args := [d] }
  | _ => none }
def compBackRow : OpenClaim := { program := "ythghohgjedjpbaa", sum := "31fe3d82049ef0038809fe49f929dd22f3ba39b06e660c12a426b275638681f4", func := "hustings/hustingslaw04.CompBack", spec := "compBack", apart := false }
def CompBackSaid : Prop := compBackRow.holds Try.pinned (OpenSpec.ofChange compBackSpec)

/-- ITS FALSE NEIGHBOUR: 'it returns false'. Refute it at one input. -/
def compBackWrong : ChangeSpec := { name := "compBack", fn := fun _ => fun
  | [d] => { results := [.lit (.bool false)], args := [d] }
  | _ => none }
def CompBackWrongFalsely : Prop := compBackRow.holds Try.pinned (OpenSpec.ofChange compBackWrong)

/-- 'hustingslaw04.CompPuts': WHATEVER THE INPUT: true; the input reads as it did. -/
def compPutsSpec : ChangeSpec := { name := "compPuts", fn := fun _ => fun
  | [d] => { results := [.lit (.bool true)], args := [d] }
  | _ => none }
def compPutsRow : OpenClaim := { program := "ythghohgjedjpbaa", sum := "31fe3d82049ef0038809fe49f929dd22f3ba39b06e660c12a426b275638681f4", func := "hustings/hustingslaw04.CompPuts", spec := "compPuts", apart := false }
def CompPutsSaid : Prop := compPutsRow.holds Try.pinned (OpenSpec.ofChange compPutsSpec)

/-- ITS FALSE NEIGHBOUR: 'it returns false'. Refute it at one input. -/
def compPutsWrong : ChangeSpec := { name := "compPuts", fn := fun _ => fun
  | [d] => { results := [.lit (.bool false)], args := [d] }
  | _ => none }
def CompPutsWrongFalsely : Prop := compPutsRow.holds Try.pinned (OpenSpec.ofChange compPutsWrong)

/-- 'hustingslaw04.CompLess': WHATEVER THE INPUT: true; the input reads as it did. -/
def compLessSpec : ChangeSpec := { name := "compLess", fn := fun _ => fun
  | [d] => { results := [.lit (.bool true)], args := [d] }
  | _ => none }
def compLessRow : OpenClaim := { program := "ythghohgjedjpbaa", sum := "31fe3d82049ef0038809fe49f929dd22f3ba39b06e660c12a426b275638681f4", func := "hustings/hustingslaw04.CompLess", spec := "compLess", apart := false }
def CompLessSaid : Prop := compLessRow.holds Try.pinned (OpenSpec.ofChange compLessSpec)

/-- ITS FALSE NEIGHBOUR: 'it returns false'. Refute it at one input. -/
def compLessWrong : ChangeSpec := { name := "compLess", fn := fun _ => fun
  | [d] => { results := [.lit (.bool false)], args := [d] }
  | _ => none }
def CompLessWrongFalsely : Prop := compLessRow.holds Try.pinned (OpenSpec.ofChange compLessWrong)

/- THE SECOND FORM. 'bulk': how many values and letters a reading holds, each counted each time it is reached (what is shared counts as often as it is met; a slice's spare places count too). A statement '..UptoSaid' is the law's where the arguments, and the package variables that the reading takes, are together of bulk at most 1048576: NARROWER than '..Said'. Prove '..Said' where nothing that the law and all that it calls make is longer than what came in: it says more and counts as full. Else prove '..UptoSaid'. A law counts once. -/
mutual
def uptoBulk {H : Type} : DataW H → Nat
  | .lit (.string bytes) => bytes.length + 1
  | .lit _ => 1
  | .nil => 1
  | .ptr d => uptoBulk d + 1
  | .slice elems spare => uptoBulkAll elems + uptoBulkAll spare + 1
  | .agg parts => uptoBulkAll parts + 1
  | .iface _ d => uptoBulk d + 1
  | .map entries => uptoBulkEntries entries + 1
  | .held _ => 1
def uptoBulkAll {H : Type} : List (DataW H) → Nat
  | [] => 0
  | d :: r => uptoBulk d + uptoBulkAll r
def uptoBulkEntries {H : Type} : List (Lit × DataW H) → Nat
  | [] => 0
  | x :: r => uptoBulkEntry x + uptoBulkEntries r
def uptoBulkEntry {H : Type} : Lit × DataW H → Nat
  | (.string bytes, d) => bytes.length + uptoBulk d + 1
  | (_, d) => uptoBulk d + 1
 end
def uptoSmall : (H : Type) → List (DataW H) → Bool := fun _ ds => decide (uptoBulkAll ds ≤ 1048576)
def OpenSpec.upto (s : _root_.Go.ChangeSpec) : _root_.Go.OpenSpec := { _root_.Go.OpenSpec.ofChange s with cond := some uptoSmall }

/-- 'hustingslaw04.CompReads', WHERE WHAT IT READS IS OF BULK AT MOST 1048576: true; the input reads as it did. -/
def compReadsUptoRow : OpenClaim := { program := "ythghohgjedjpbaa", sum := "31fe3d82049ef0038809fe49f929dd22f3ba39b06e660c12a426b275638681f4", func := "hustings/hustingslaw04.CompReads", spec := "compReads", apart := false, narrowed := true }
def CompReadsUptoSaid : Prop := compReadsUptoRow.holds Try.pinned (OpenSpec.upto compReadsSpec)

/-- 'hustingslaw04.CompBehind', WHERE WHAT IT READS IS OF BULK AT MOST 1048576: true; the input reads as it did. -/
def compBehindUptoRow : OpenClaim := { program := "ythghohgjedjpbaa", sum := "31fe3d82049ef0038809fe49f929dd22f3ba39b06e660c12a426b275638681f4", func := "hustings/hustingslaw04.CompBehind", spec := "compBehind", apart := false, narrowed := true }
def CompBehindUptoSaid : Prop := compBehindUptoRow.holds Try.pinned (OpenSpec.upto compBehindSpec)

/-- 'hustingslaw04.CompAs', WHERE WHAT IT READS IS OF BULK AT MOST 1048576: true; the input reads as it did. -/
def compAsUptoRow : OpenClaim := { program := "ythghohgjedjpbaa", sum := "31fe3d82049ef0038809fe49f929dd22f3ba39b06e660c12a426b275638681f4", func := "hustings/hustingslaw04.CompAs", spec := "compAs", apart := false, narrowed := true }
def CompAsUptoSaid : Prop := compAsUptoRow.holds Try.pinned (OpenSpec.upto compAsSpec)

/-- 'hustingslaw04.CompBack', WHERE WHAT IT READS IS OF BULK AT MOST 1048576: true; the input reads as it did. -/
def compBackUptoRow : OpenClaim := { program := "ythghohgjedjpbaa", sum := "31fe3d82049ef0038809fe49f929dd22f3ba39b06e660c12a426b275638681f4", func := "hustings/hustingslaw04.CompBack", spec := "compBack", apart := false, narrowed := true }
def CompBackUptoSaid : Prop := compBackUptoRow.holds Try.pinned (OpenSpec.upto compBackSpec)

/-- 'hustingslaw04.CompPuts', WHERE WHAT IT READS IS OF BULK AT MOST 1048576: true; the input reads as it did. -/
def compPutsUptoRow : OpenClaim := { program := "ythghohgjedjpbaa", sum := "31fe3d82049ef0038809fe49f929dd22f3ba39b06e660c12a426b275638681f4", func := "hustings/hustingslaw04.CompPuts", spec := "compPuts", apart := false, narrowed := true }
def CompPutsUptoSaid : Prop := compPutsUptoRow.holds Try.pinned (OpenSpec.upto compPutsSpec)

/-- 'hustingslaw04.CompLess', WHERE WHAT IT READS IS OF BULK AT MOST 1048576: true; the input reads as it did. -/
def compLessUptoRow : OpenClaim := { program := "ythghohgjedjpbaa", sum := "31fe3d82049ef0038809fe49f929dd22f3ba39b06e660c12a426b275638681f4", func := "hustings/hustingslaw04.CompLess", spec := "compLess", apart := false, narrowed := true }
def CompLessUptoSaid : Prop := compLessUptoRow.holds Try.pinned (OpenSpec.upto compLessSpec)

end Rows
end Go.Proofs.Ythghohgjedjpbaa
