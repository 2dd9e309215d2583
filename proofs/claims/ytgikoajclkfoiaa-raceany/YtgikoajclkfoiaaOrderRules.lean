/- order's rules: what they are made of. -/
import Derived.Test.YtgikoajclkfoiaaOrderSide
import Derived.Deep.WholeRow
namespace Go.Proofs.Ytgikoajclkfoiaa
set_option linter.unusedVariables false
set_option linter.unusedSimpArgs false
set_option maxRecDepth 100000
open Go.ChangeShapes Go.WideShapes Go.ChangeAt Go.RowKit

theorem row_one8 (w : World) (x : Int) : RowOf .u8 (w.alloc (.cells #[.int .u8 x] 5)) (w.alloc (.cells #[.int .u8 x] 5)).heap.size (some ⟨w.heap.size, 0, none⟩) [x] := fun i y hy => by
  match i with
  | 0 => cases hy; exact ⟨_, 0, rfl, by simp, cell_of_row _ _ 0 _ _ _ (heap_alloc_new _ _)⟩
  | i + 1 => cases hy
theorem row_two8 (w : World) (x z : Int) : RowOf .u8 (w.alloc (.cells #[.int .u8 x, .int .u8 z] 5)) (w.alloc (.cells #[.int .u8 x, .int .u8 z] 5)).heap.size (some ⟨w.heap.size, 0, none⟩) [x, z] := fun i y hy => by
  match i with
  | 0 => cases hy; exact ⟨_, 0, rfl, by simp, cell_of_row _ _ 0 _ _ _ (heap_alloc_new _ _)⟩
  | 1 => cases hy; exact ⟨_, 0, rfl, by simp, cell_of_row _ _ 1 _ _ _ (heap_alloc_new _ _)⟩
  | i + 2 => cases hy
/-- What a maker of a side hands out. -/
def SideE (Y : Nat → Prop) (s : Sd) (w : World) (e : Ending) (w' : World) : Prop := ∃ v, e = .returned v ∧ SideV Y w' v s ∧ v.oneCell' = true ∧ Below w.heap.size w w'
def WhE (Y : Nat → Prop) (s : Option Wh) (w : World) (e : Ending) (w' : World) : Prop := ∃ v, e = .returned v ∧ WhV Y w' v s ∧ v.oneCell' = true ∧ Below w.heap.size w w'
/-- What rules hands out: thirty function values. -/
structure RulesV (Y : Nat → Prop) (w : World) (R : Array Value) (chans : List Int) : Prop where
  size : R.size = 30
  one : R.all (·.oneCell') = true
  get : ∀ k r, (rulesL chans)[k]? = some r → ∃ va vb vw, R[k * 3]? = some va ∧ R[k * 3 + 1]? = some vb ∧ R[k * 3 + 2]? = some vw ∧ SideV Y w va r.a ∧ SideV Y w vb r.b ∧ WhV Y w vw r.wh
theorem RulesV.touch {Y : Nat → Prop} {w w' : World} {R : Array Value} {chans : List Int} (h : RulesV Y w R chans) (hB : Touch Y w w') : RulesV Y w' R chans :=
  ⟨h.size, h.one, fun k r hr => by
    obtain ⟨va, vb, vw, h1, h2, h3, h4, h5, h6⟩ := h.get k r hr
    exact ⟨va, vb, vw, h1, h2, h3, h4.touch hB, h5.touch hB, h6.touch hB⟩⟩
theorem RulesV.later {Y : Nat → Prop} {w w' : World} {R : Array Value} {chans : List Int} (h : RulesV Y w R chans) (hB : Below w.heap.size w w') : RulesV Y w' R chans := h.touch (Touch.of_below hB)
theorem SideV.weak {Y Y' : Nat → Prop} {w : World} {v : Value} {s : Sd} (h : SideV Y w v s) (hy : ∀ g, Y' g → Y g) : SideV Y' w v s := by
  obtain ⟨fn, cap, rfl, hc, h⟩ := h
  exact ⟨fn, cap, rfl, hc, fun u hu => h u (hu.mono fun g _ q => hy g q)⟩
theorem WhV.weak {Y Y' : Nat → Prop} {w : World} {v : Value} {s : Option Wh} (h : WhV Y w v s) (hy : ∀ g, Y' g → Y g) : WhV Y' w v s := by
  cases s with
  | none => exact h
  | some f =>
    obtain ⟨fn, cap, rfl, hc, h⟩ := h
    exact ⟨fn, cap, rfl, hc, fun u hu => h u (hu.mono fun g _ q => hy g q)⟩
theorem RulesV.weak {Y Y' : Nat → Prop} {w : World} {R : Array Value} {chans : List Int} (h : RulesV Y w R chans) (hy : ∀ g, Y' g → Y g) : RulesV Y' w R chans :=
  ⟨h.size, h.one, fun k r hr => by
    obtain ⟨va, vb, vw, h1, h2, h3, h4, h5, h6⟩ := h.get k r hr
    exact ⟨va, vb, vw, h1, h2, h3, h4.weak hy, h5.weak hy, h6.weak hy⟩⟩
def YR (Y : Nat → Prop) (w : World) (g : Nat) : Prop := Y g ∨ g = w.heap.size + 1
def RulesE (Y : Nat → Prop) (chans : List Int) (w : World) (e : Ending) (w' : World) : Prop := ∃ R, e = .returned (.agg R) ∧ RulesV Y w' R chans ∧ Below w.heap.size w w'
end Go.Proofs.Ytgikoajclkfoiaa
