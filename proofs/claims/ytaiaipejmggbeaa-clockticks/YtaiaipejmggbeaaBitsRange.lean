/- What Count, List and First of package bits return, for every set; nothing that lay before turns. -/
import Derived.Test.YtaiaipejmggbeaaBitsIter
namespace Go.Proofs.Ytaiaipejmggbeaa
set_option linter.unusedVariables false
set_option linter.unusedSimpArgs false
open Go.RowKit Go.Shelf
attribute [local go_sem] Oper.semAt_some

theorem boxed_later {W W' : World} {B : Nat} {t : TypeId} {v : Value} (h : Boxed W B t v) (hW : Below W.heap.size W W') : Boxed W' B t v := (hW.block B h.lt).trans h

theorem keepsBox_b {w : World} {B : Nat} (hB : B < w.heap.size) (W : World) (l : Nat) (o o' : Obj) (hl : w.heap.size ≤ l) (_ : W.heap[l]? = some o) (_ : o.isCells = false) (_ : o.isWalk = false) : KeepsBox B W (W.putObj l o') :=
  World.putObj_heap_other (by omega)

theorem keepsBox_set (W : World) (B : Nat) {p : Addr} (h : B ≠ p.block) (v : Value) : KeepsBox B W (W.setCell p v) := Below.heap_setCell W p v B h

theorem info_int : (Try.prog.info? 3).map (fun i => (i.zero, i.size, i.bytes)) = some (some (.int .i64 0), 1, 8) := by kernel_rfl

/-- The least of a list that is not below a number; -1: there is none. -/
def firstOf (l : List Int) (m : Int) : Int := (l.find? fun x => decide (m ≤ x)).getD (-1)
theorem firstOf_none (l : List Int) (m : Int) (h : ∀ x ∈ l, x < m) : firstOf l m = -1 := by
  have : l.find? (fun x => decide (m ≤ x)) = none := by
    rw [List.find?_eq_none]; intro x hx; have := h x hx; simp; omega
  simp [firstOf, this]
theorem firstOf_some (l pre : List Int) (x m : Int) (h : ∀ y ∈ pre, y < m) (hx : m ≤ x) (hp : pre ++ [x] <+: l) : firstOf l m = x := by
  obtain ⟨t, rfl⟩ := hp
  have : pre.find? (fun x => decide (m ≤ x)) = none := by
    rw [List.find?_eq_none]; intro y hy; have := h y hy; simp; omega
  simp [firstOf, this, hx]


end Go.Proofs.Ytaiaipejmggbeaa
