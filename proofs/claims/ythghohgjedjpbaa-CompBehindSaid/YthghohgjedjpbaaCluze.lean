/-
  Runs of closed calls by the kernel: the facts about this program that every run needs.
-/
import Derived.Test.YthghohgjedjpbaaRows
import Derived.Test.YthghohgjedjpbaaCluZd
namespace Go.Proofs.Ythghohgjedjpbaa
namespace Clu
open Go.RowKit
set_option linter.unusedVariables false

theorem plain_all : (Go.Proofs.Try.prog.funcs.toList.all fun fn => fn.body.isNone || !(fn.name == "runtime.NumGoroutine")) = true := by kernel_rfl
theorem plain : Plain Go.Proofs.Try.prog := fun f fn c hf hb => by
  have hm : fn ∈ Go.Proofs.Try.prog.funcs.toList := by
    rw [← Array.getElem?_toList] at hf
    exact List.mem_of_getElem? hf
  have := List.all_eq_true.1 plain_all fn hm
  rw [hb] at this
  simpa using this
theorem mixed : Go.Proofs.Try.prog.follows .mixedOrders = true := by kernel_rfl
theorem closed {n : Nat} {f : FuncId} {fn : Func} {c : Code} {b : Bool} (hf : Go.Proofs.Try.prog.funcs[f]? = some fn) (hb : fn.body = some c) (h : runF Go.Proofs.Try.prog noX n 1000 f [] .e 1000 = .ok (.b b)) (w : World) :
    Calls Go.Proofs.Try.prog f #[] w fun e w' => e = .returned (.bool b) ∧ Below w.heap.size w w' := run_closed plain mixed hf hb h w
end Clu
end Go.Proofs.Ythghohgjedjpbaa
