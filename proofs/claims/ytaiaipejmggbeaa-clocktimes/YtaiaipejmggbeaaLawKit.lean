/- What all laws' proofs share: the program's own two facts; a slice of integers that came in. No statement of its own. -/
import Derived.Test.YtaiaipejmggbeaaRows
import Derived.WalkKit
import Derived.ProofKit
import Derived.OpenShut
import Derived.ShutString
import Derived.ChangeOld
import Derived.Below
import Derived.Deep.Draws
namespace Go.Proofs.Ytaiaipejmggbeaa
set_option linter.unusedVariables false
set_option linter.unusedSimpArgs false
open Go.ChangeShapes Go.WideShapes Go.ChangeAt Go.RowKit

theorem law_own : ownKnob Try.prog.godebug = none := by kernel_rfl
theorem law_laidOut : laidOutB Try.prog = true := by kernel_rfl

/-- A slice at address a holds the numbers l, in a block below B. -/
def RowOf (k : IntKind) (w : World) (B : Nat) (a : Option Addr) (l : List Int) : Prop :=
  ∀ i x, l[i]? = some x → ∃ b off, a = some ⟨b, off, none⟩ ∧ b < B ∧ w.cell? ⟨b, off + i, none⟩ = some (.int k x)

/-- A slice of integers that came in: its numbers, each of its kind, in a block that lies. -/
structure SliceIn (k : IntKind) (w : World) (a : Option Addr) (len cap : Nat) (l : List Int) : Prop where
  len_eq : len = l.length
  len_le : len ≤ cap
  cap_le : cap ≤ maxLen
  row : RowOf k w w.heap.size a l
  fit : ∀ n ∈ l, (Lit.int k n).wf = true
theorem SliceIn.nil (k : IntKind) (w : World) : SliceIn k w none 0 0 [] := ⟨rfl, Nat.le_refl _, Nat.zero_le _, fun i x h => by simp at h, fun n h => by simp at h⟩
theorem cell_lt {w : World} {b o : Nat} {v : Value} (h : w.cell? ⟨b, o, none⟩ = some v) : b < w.heap.size := by
  rcases Nat.lt_or_ge b w.heap.size with hlt | hge
  · exact hlt
  · simp [World.cell?, Array.getElem?_eq_none hge] at h
theorem SliceIn.of {k : IntKind} {w : World} {x : Addr} {len cap : Nat} {zs : List Int} (hl : len ≤ cap) (hm : cap ≤ maxLen) (hz : zs.length = cap)
    (hcell : ∀ i, i < zs.length → w.cell? (x.add i) = some (.int k (zs.getD i 0))) (hwz : ∀ n ∈ zs, (Lit.int k n).wf = true) : SliceIn k w (some x) len cap (zs.take len) := by
  refine ⟨by simp; omega, hl, hm, fun i y hy => ?_, fun n hn => hwz n (List.mem_of_mem_take hn)⟩
  have hi : i < len := by
    rcases Nat.lt_or_ge i len with h | h
    · exact h
    · rw [List.getElem?_eq_none (by simp; omega)] at hy; cases hy
  obtain ⟨b, off, rfl, hc⟩ := ints_at hcell (by omega)
  have := hc i (by omega)
  rw [List.getElem?_take_of_lt hi, List.getElem?_eq_getElem (by omega)] at hy
  have e : zs.getD i 0 = y := by
    rw [List.getD_eq_getElem?_getD, List.getElem?_eq_getElem (by omega)]
    exact Option.some.inj hy
  rw [e] at this
  exact ⟨b, off, rfl, cell_lt this, this⟩

theorem below_next {w w1 w2 : World} (h : Below w.heap.size w w1) (k : Below w1.heap.size w1 w2) : Below w.heap.size w w2 := h.trans (k.mono h.size)
theorem below_new {w w1 : World} (h : Below w.heap.size w w1) (o : Obj) : Below w.heap.size w (w1.alloc o) := h.alloc h.size o
theorem below_draws {B : Nat} {w w1 : World} (h : Below B w w1) (n : Nat) : Below B w (w1.drewN n) := ⟨h.os, h.tape, h.output, h.size, h.block⟩

end Go.Proofs.Ytaiaipejmggbeaa
