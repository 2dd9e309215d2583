/- What order's count, holds and Direct answer. -/
import Derived.Test.YtgikoajclkfoiaaOrderRules
namespace Go.Proofs.Ytgikoajclkfoiaa
set_option linter.unusedVariables false
set_option linter.unusedSimpArgs false
set_option maxRecDepth 100000
open Go.ChangeShapes Go.WideShapes Go.ChangeAt Go.RowKit

/-- Events lie at an address, in a block below B. -/
def EvsIn (w : World) (B : Nat) (a : Option Addr) (t : List EvD) : Prop := ∀ k e, t[k]? = some e → ∃ g o, a = some ⟨g, o, none⟩ ∧ g < B ∧ EvAt w g (o + k * 6) e
theorem EvsIn.later {w u : World} {a : Option Addr} {t : List EvD} (h : EvsIn w w.heap.size a t) (hB : Below w.heap.size w u) : EvsIn u u.heap.size a t := fun k e hk => by
  obtain ⟨g, o, h1, h2, h3⟩ := h k e hk
  exact ⟨g, o, h1, Nat.lt_of_lt_of_le h2 hB.size, h3.later hB⟩
theorem EvsIn.take {w : World} {B : Nat} {a : Option Addr} {t : List EvD} (h : EvsIn w B a t) (n : Nat) : EvsIn w B a (t.take n) := fun k e hk => by
  rw [List.getElem?_take] at hk
  split at hk
  · exact h k e hk
  · cases hk
theorem cnt_snoc (s : Sd) (x : Int) {t : List EvD} {k : Nat} {e : EvD} (h : t[k]? = some e) : cntS s x (t.take (k + 1)) = cntS s x (t.take k) + (if isS s x e then 1 else 0) := by
  rw [List.take_add_one, h]
  unfold cntS
  rw [List.countP_append]
  simp [List.countP_cons]
theorem keepC {u u' : World} {g o : Nat} {v : Value} (hB : Below u.heap.size u u') (h : u.cell? ⟨g, o, none⟩ = some v) : u'.cell? ⟨g, o, none⟩ = some v := (hB.cell (p := ⟨g, o, none⟩) (cell_lt h)).trans h
theorem keepO8 {u u' : World} {g0 o0 g1 o1 g2 o2 g3 o3 g4 o4 g5 o5 g6 o6 g7 o7 : Nat} {v0 v1 v2 v3 v4 v5 v6 v7 : Value} (k : u.cell? ⟨g0, o0, none⟩ = some v0 ∧ u.cell? ⟨g1, o1, none⟩ = some v1 ∧ u.cell? ⟨g2, o2, none⟩ = some v2 ∧ u.cell? ⟨g3, o3, none⟩ = some v3 ∧ u.cell? ⟨g4, o4, none⟩ = some v4 ∧ u.cell? ⟨g5, o5, none⟩ = some v5 ∧ u.cell? ⟨g6, o6, none⟩ = some v6 ∧ u.cell? ⟨g7, o7, none⟩ = some v7) (hB : Below u.heap.size u u') : u'.cell? ⟨g0, o0, none⟩ = some v0 ∧ u'.cell? ⟨g1, o1, none⟩ = some v1 ∧ u'.cell? ⟨g2, o2, none⟩ = some v2 ∧ u'.cell? ⟨g3, o3, none⟩ = some v3 ∧ u'.cell? ⟨g4, o4, none⟩ = some v4 ∧ u'.cell? ⟨g5, o5, none⟩ = some v5 ∧ u'.cell? ⟨g6, o6, none⟩ = some v6 ∧ u'.cell? ⟨g7, o7, none⟩ = some v7 := ⟨keepC hB k.1, keepC hB k.2.1, keepC hB k.2.2.1, keepC hB k.2.2.2.1, keepC hB k.2.2.2.2.1, keepC hB k.2.2.2.2.2.1, keepC hB k.2.2.2.2.2.2.1, keepC hB k.2.2.2.2.2.2.2⟩
theorem keepO3 {u u' : World} {g0 o0 g1 o1 g2 o2 : Nat} {v0 v1 v2 : Value} (k : u.cell? ⟨g0, o0, none⟩ = some v0 ∧ u.cell? ⟨g1, o1, none⟩ = some v1 ∧ u.cell? ⟨g2, o2, none⟩ = some v2) (hB : Below u.heap.size u u') : u'.cell? ⟨g0, o0, none⟩ = some v0 ∧ u'.cell? ⟨g1, o1, none⟩ = some v1 ∧ u'.cell? ⟨g2, o2, none⟩ = some v2 := ⟨keepC hB k.1, keepC hB k.2.1, keepC hB k.2.2⟩
theorem box3 {u : World} {g : Nat} {v0 v1 v2 : Value} {t : TypeId} {fr : Nat × Nat} (h : u.heap[g]? = some (.cells #[v0, v1, v2] t fr)) : u.cell? ⟨g, 0, none⟩ = some v0 ∧ u.cell? ⟨g, 1, none⟩ = some v1 ∧ u.cell? ⟨g, 2, none⟩ = some v2 :=
  ⟨cell_of_row _ _ 0 _ _ _ h, cell_of_row _ _ 1 _ _ _ h, cell_of_row _ _ 2 _ _ _ h⟩
end Go.Proofs.Ytgikoajclkfoiaa
