/- What package bits' iterator tells, for every set: its numbers, rising, till a round says no more. -/
import Derived.Test.YtaiaipejmggbeaaBitsWalks1
import Derived.RangeFuncBox
import Derived.RangeFuncNested
import Derived.RangeFuncLeaves
import Derived.Shelf.Abstract
import Derived.OwnWalkIn
import Derived.TacticsInMore
import Derived.LoopNIn
import Derived.LoopIn
import Derived.Maps.AppendAt
namespace Go.Proofs.Ytaiaipejmggbeaa
set_option linter.unusedVariables false
set_option linter.unusedSimpArgs false
open Go.RowKit Go.Shelf
attribute [local go_sem] Oper.semAt_some

/-- The numbers of a set below k, rising, as integers. -/
def numsTo (s k : Nat) : List Int := ((List.range k).filter fun i => s.testBit i).map Int.ofNat
theorem numsTo_hit (s k : Nat) (h : s.testBit k = true) : numsTo s (k + 1) = numsTo s k ++ [(k : Int)] := by
  simp [numsTo, List.range_succ, h]
theorem numsTo_miss (s k : Nat) (h : s.testBit k = false) : numsTo s (k + 1) = numsTo s k := by
  simp [numsTo, List.range_succ, h]
theorem numsTo_front (s j k : Nat) (h : j ≤ k) : numsTo s j <+: numsTo s k := by
  obtain ⟨d, rfl⟩ := Nat.exists_eq_add_of_le h
  clear h
  induction d with
  | zero => exact List.prefix_refl _
  | succ d ih =>
    refine ih.trans ?_
    rw [← Nat.add_assoc]
    cases ht : s.testBit (j + d)
    · rw [numsTo_miss _ _ ht]; exact List.prefix_refl _
    · rw [numsTo_hit _ _ ht]; exact List.prefix_append _ _
theorem numsTo_len (s k : Nat) : (numsTo s k).length ≤ k := by
  simp only [numsTo, List.length_map]
  exact Nat.le_trans (List.length_filter_le _ _) (by simp)

/-- What a round of the caller must keep: the box in which the set lies. -/
def KeepsBox (B : Nat) (W W' : World) : Prop := W'.heap[B]? = W.heap[B]?
theorem KeepsBox.trans {B : Nat} {X Y Z : World} (h : KeepsBox B X Y) (k : KeepsBox B Y Z) : KeepsBox B X Z := Eq.trans k h


end Go.Proofs.Ytaiaipejmggbeaa
