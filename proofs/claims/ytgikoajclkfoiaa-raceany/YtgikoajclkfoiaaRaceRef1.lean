/- The document's Conflict. -/
import Derived.Test.YtgikoajclkfoiaaRaceDoc
namespace Go.Proofs.Ytgikoajclkfoiaa
set_option linter.unusedVariables false
set_option linter.unusedSimpArgs false
set_option maxRecDepth 100000
open Go.ChangeShapes Go.WideShapes Go.ChangeAt Go.RowKit

def cfB (e e' : EvD) : Bool := (toB e && toB e') && e.obj == e'.obj && e.th != e'.th && (e.op == 8 || e'.op == 8)
set_option maxHeartbeats 8000000 in
theorem conflict_any (e e' : EvD) (w : World) : Calls Try.prog 17 #[e.v, e'.v] w fun r w' => r = .returned (.bool (cfB e e')) ∧ Below w.heap.size w w' := by
  have HF := Lib.hid (show cfB e e' = (((e.op == 7 || e.op == 8) && (e'.op == 7 || e'.op == 8)) && e.obj == e'.obj && e.th != e'.th && (e.op == 8 || e'.op == 8)) from rfl)
  generalize cfB e e' = R at *
  obtain ⟨th, pc, op, obj, val, mode⟩ := e
  obtain ⟨th', pc', op', obj', val', mode'⟩ := e'
  simp only at HF
  show Calls Try.prog 17 #[evV th pc op obj val mode, evV th' pc' op' obj' val' mode'] w _
  rcases h1 : (op == 7) with _ | _ <;> rcases h2 : (op == 8) with _ | _ <;> rcases h3 : (op' == 7) with _ | _ <;> rcases h4 : (op' == 8) with _ | _ <;> rcases h5 : (obj == obj') with _ | _ <;> rcases h6 : (th != th') with _ | _
  all_goals
    go_enter Try.func17, Try.ntmps17
    go_wp2
    go_ret
    exact ⟨by rw [HF.out, h1, h2, h3, h4, h5, h6]; rfl, by first | exact Below.refl _ _ | exact below_box _ _ | exact below_two _ _ _⟩
end Go.Proofs.Ytgikoajclkfoiaa
