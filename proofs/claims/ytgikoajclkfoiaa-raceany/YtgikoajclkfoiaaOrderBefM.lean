/- What is ahead of what, between any two places: by lists. -/
import Derived.Test.YtgikoajclkfoiaaOrderDirect
namespace Go.Proofs.Ytgikoajclkfoiaa
set_option linter.unusedVariables false
set_option linter.unusedSimpArgs false
set_option maxRecDepth 100000
open Go.ChangeShapes Go.WideShapes Go.ChangeAt Go.RowKit Go.Maps

def befI (chans : List Int) (t : List EvD) (i j : Int) : Bool := riseB i j t.length && befB (dirB chans t) i.toNat j.toNat
theorem own_cellB {V : World} {base : Nat} {e : TypeId} {a : Option Addr} {n c : Nat} {xs : List Value} (h : V.ownsRow base e 1 (.slice a n c) n xs) {i : Nat} {v : Value} (hv : xs[i]? = some v) : ∃ g, a = some ⟨g, 0, none⟩ ∧ V.cell? ⟨g, i, none⟩ = some v := by
  have hl := h.1
  have hi := (List.getElem?_eq_some_iff.1 hv).1
  rcases h.2 with ⟨_, h0⟩ | ⟨g, cap, cur, e', hb, hh, hle, hcap, hsz, ht⟩
  · omega
  · injection e' with e1 e2 e3
    subst e1
    refine ⟨g, rfl, ?_⟩
    rw [cell_of_row _ _ _ _ _ _ hh]
    rw [← ht, List.getElem?_take_of_lt (by omega)] at hv
    simpa using hv
theorem box7 {u : World} {g : Nat} {v0 v1 v2 v3 v4 v5 v6 : Value} {t : TypeId} {fr : Nat × Nat} (h : u.heap[g]? = some (.cells #[v0, v1, v2, v3, v4, v5, v6] t fr)) : u.cell? ⟨g, 0, none⟩ = some v0 ∧ u.cell? ⟨g, 1, none⟩ = some v1 ∧ u.cell? ⟨g, 2, none⟩ = some v2 ∧ u.cell? ⟨g, 3, none⟩ = some v3 ∧ u.cell? ⟨g, 4, none⟩ = some v4 ∧ u.cell? ⟨g, 5, none⟩ = some v5 ∧ u.cell? ⟨g, 6, none⟩ = some v6 :=
  ⟨cell_of_row _ _ 0 _ _ _ h, cell_of_row _ _ 1 _ _ _ h, cell_of_row _ _ 2 _ _ _ h, cell_of_row _ _ 3 _ _ _ h, cell_of_row _ _ 4 _ _ _ h, cell_of_row _ _ 5 _ _ _ h, cell_of_row _ _ 6 _ _ _ h⟩
def pastI (chans : List Int) (t : List EvD) (j : Int) : List Nat := if 0 ≤ j ∧ j < (t.length : Int) then pastL (dirB chans t) j.toNat else []
end Go.Proofs.Ytgikoajclkfoiaa
