/- What order's below answers: how many of a rising row are less. -/
import Derived.Test.YtgikoajclkfoiaaOrderRules
namespace Go.Proofs.Ytgikoajclkfoiaa
set_option linter.unusedVariables false
set_option linter.unusedSimpArgs false
set_option maxRecDepth 100000
open Go.ChangeShapes Go.WideShapes Go.ChangeAt Go.RowKit

def ofN (l : List Nat) : List Int := l.map fun k : Nat => (k : Int)
theorem ofN_len (l : List Nat) : (ofN l).length = l.length := by simp [ofN]
theorem ofN_at {l : List Nat} {k x : Nat} (h : l[k]? = some x) : (ofN l)[k]? = some (x : Int) := by simp [ofN, h]
/-- How many are less. -/
def cntLt (l : List Nat) (j : Nat) : Nat := l.countP fun k => decide (k < j)
theorem cntLt_le (l : List Nat) (j : Nat) : cntLt l j ≤ l.length := List.countP_le_length
theorem cntLt_none {l : List Nat} {j : Nat} (h : ∀ x ∈ l, j ≤ x) : cntLt l j = 0 := by
  unfold cntLt
  rw [List.countP_eq_zero]
  intro x hx
  have := h x hx
  simp; omega
theorem rise_lt {l : List Nat} (h : l.Pairwise (· < ·)) (j : Nat) : ∀ k x, l[k]? = some x → (x < j ↔ k < cntLt l j) := by
  induction l with
  | nil => intro k x hx; simp at hx
  | cons y r ih =>
    obtain ⟨h1, h2⟩ := List.pairwise_cons.1 h
    have ih := ih h2
    have e : cntLt (y :: r) j = cntLt r j + (if y < j then 1 else 0) := by simp [cntLt, List.countP_cons]
    intro k x hx
    rw [e]
    by_cases hy : y < j
    · rw [if_pos hy]
      cases k with
      | zero => simp at hx; subst hx; simp [hy]
      | succ k => rw [List.getElem?_cons_succ] at hx; rw [ih k x hx]; omega
    · rw [if_neg hy, cntLt_none (fun z hz => by have := h1 z hz; omega)]
      cases k with
      | zero => simp at hx; subst hx; simp [hy]
      | succ k =>
        rw [List.getElem?_cons_succ] at hx
        have := h1 x (List.mem_of_getElem? hx)
        constructor
        · intro q; omega
        · intro q; omega
def FoundE (r : Nat) (w : World) (e : Ending) (w' : World) : Prop := ∃ b, e = .returned (.tuple #[.int .i64 r, .bool b]) ∧ w = w'
end Go.Proofs.Ytgikoajclkfoiaa
