/- What order's Direct answers. -/
import Derived.Test.YtgikoajclkfoiaaOrderHold2
namespace Go.Proofs.Ytgikoajclkfoiaa
set_option linter.unusedVariables false
set_option linter.unusedSimpArgs false
set_option maxRecDepth 100000
open Go.ChangeShapes Go.WideShapes Go.ChangeAt Go.RowKit

def riseB (i j n : Int) : Bool := decide (0 ≤ i) && decide (i < j) && decide (j < n)
theorem riseB_iff {i j n : Int} : riseB i j n = true ↔ 0 ≤ i ∧ i < j ∧ j < n := by simp [riseB, and_assoc]
theorem side_one {Y : Nat → Prop} {w : World} {v : Value} {s : Sd} (h : SideV Y w v s) : v.oneCell' = true := by obtain ⟨_, _, rfl, _⟩ := h; rfl
theorem wh_one {Y : Nat → Prop} {w : World} {v : Value} {s : Option Wh} (h : WhV Y w v s) : v.oneCell' = true := by
  cases s with
  | none => cases h; rfl
  | some f => obtain ⟨_, _, rfl, _⟩ := h; rfl
/-- A program's value: its channels lie. -/
structure ChIn (w : World) (ca : Option Addr) (chans : List Int) : Prop where
  row : RowOf .i64 w w.heap.size ca chans
  len : chans.length ≤ 1000000
  wf : ∀ c ∈ chans, -9223372036854775808 ≤ c ∧ c ≤ 9223372036854775807
theorem ChIn.later {w w' : World} {ca : Option Addr} {chans : List Int} (h : ChIn w ca chans) (hB : Below w.heap.size w w') : ChIn w' ca chans := ⟨h.row.up hB, h.len, h.wf⟩
def dirI (chans : List Int) (t : List EvD) (i j : Int) : Bool := riseB i j t.length && dirB chans t i.toNat j.toNat
end Go.Proofs.Ytgikoajclkfoiaa
