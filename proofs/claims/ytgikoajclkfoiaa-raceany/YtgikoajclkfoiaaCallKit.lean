/- A call of a function value. -/
import Derived.Test.YtgikoajclkfoiaaLawKit
namespace Go.Proofs.Ytgikoajclkfoiaa
set_option linter.unusedVariables false
set_option linter.unusedSimpArgs false

theorem cf_of {P : Program} {fn : FuncId} {f : Func} (h : P.funcs[fn]? = some f) (hn : (f.name == "runtime.NumGoroutine") = false) (hb : f.body.isNone = false) (args : Array Value) (w : World) : (callFunc fn args).run P w = .ok (.enter fn args) w := by
  have hn' : ¬ f.name = "runtime.NumGoroutine" := by simpa using hn
  have hb' : ¬ f.body = none := by intro e; rw [e] at hb; cases hb
  simp [callFunc, h, hn', hb']
end Go.Proofs.Ytgikoajclkfoiaa
