/- What the calls of package bits over lists return (among, With, Without), and the document's own (With, Without, All, List, First, Same), for every list of at most 1000 numbers. -/
import Derived.Test.YtaiaipejmggbeaaBitsWalks1
import Derived.Test.YtaiaipejmggbeaaLawKit
import Derived.Test.YtaiaipejmggbeaaBitsMath2
import Derived.Test.YtaiaipejmggbeaaBitsRange
import Derived.RegionTactic
import Derived.ChangeAlike
import Derived.Deep.QuietTactic
import Derived.BigQuiet
import Derived.Laws.OwnMore
namespace Go.Proofs.Ytaiaipejmggbeaa
set_option linter.unusedVariables false
set_option linter.unusedSimpArgs false
open Go.RowKit

theorem RowOf.nil (k : IntKind) (w : World) (B : Nat) (a : Option Addr) : RowOf k w B a [] := fun i x h => by simp at h
theorem RowOf.below {k : IntKind} {w w' : World} {B : Nat} {a : Option Addr} {l : List Int} (h : RowOf k w B a l) (hb : Below B w w') : RowOf k w' B a l := fun i x hx => by
  obtain ⟨b, off, rfl, hlt, hc⟩ := h i x hx
  exact ⟨b, off, rfl, hlt, (hb.cell (p := ⟨b, off + i, none⟩) hlt).trans hc⟩
theorem RowOf.more {k : IntKind} {w : World} {B B' : Nat} {a : Option Addr} {l : List Int} (h : RowOf k w B a l) (hb : B ≤ B') : RowOf k w B' a l := fun i x hx => by
  obtain ⟨b, off, rfl, hlt, hc⟩ := h i x hx
  exact ⟨b, off, rfl, by omega, hc⟩
theorem RowOf.own {k : IntKind} {w : World} {base : Nat} {e : TypeId} {v : Value} {n : Nat} {l : List Int} (h : w.ownsRow base e 1 v n (l.map (Value.int k))) :
    ∃ a cap, v = .slice a n cap ∧ n = l.length ∧ RowOf k w w.heap.size a l := by
  have hl : l.length = n := by have := h.1; simpa using this
  rcases h.2 with ⟨rfl, hn⟩ | ⟨g, cap, cur, rfl, hg, hh, hn, hcap, hsz, htake⟩
  · subst hn
    obtain rfl : l = [] := List.eq_nil_of_length_eq_zero hl
    exact ⟨none, 0, rfl, rfl, RowOf.nil _ _ _ _⟩
  · refine ⟨some ⟨g, 0, none⟩, cap, rfl, hl.symm, fun i x hx => ⟨g, 0, rfl, (Array.getElem?_eq_some_iff.1 hh).1, ?_⟩⟩
    have hi : i < l.length := by
      rcases Nat.lt_or_ge i l.length with h | h
      · exact h
      · rw [List.getElem?_eq_none h] at hx; cases hx
    rw [Nat.zero_add, h.cellAt i (by omega), List.getElem?_map, hx]
    rfl
theorem at_len {l : List Int} {k : Nat} (h : k < l.length) : ∃ x, l[k]? = some x := ⟨_, List.getElem?_eq_getElem h⟩

theorem append_below {w wr w1 : World} {e : TypeId} {v : Value} {n : Nat} {xs : List Value} {o : Obj} (hB : Below w.heap.size w wr) (hrow : wr.ownsRow w.heap.size e 1 v n xs) (hgrow : (wr.alloc o).grownBy w1 v.ownBlock) : Below w.heap.size w w1 := by
  refine (hB.alloc hB.size o).grown hgrow (by have := hB.size; simp; omega) fun j ej => ?_
  rcases hrow.2 with ⟨rfl, _⟩ | ⟨g, cap, cur, rfl, hb, _, _⟩
  · simp [Value.ownBlock] at ej
  · obtain rfl : g = j := by simpa [Value.ownBlock] using ej
    exact hb

theorem Same.len (l m : List Int) (h : l = m) : l.length = m.length := by rw [h]


end Go.Proofs.Ytaiaipejmggbeaa
