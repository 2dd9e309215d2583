/- The chapter's examples: known. -/
import Derived.Test.YtaiaipejmggbeaaClockLaw
namespace Go.Proofs.Ytaiaipejmggbeaa
set_option linter.unusedVariables false
set_option linter.unusedSimpArgs false
set_option maxRecDepth 100000
open Go.ChangeShapes Go.WideShapes Go.ChangeAt Go.RowKit

theorem row_two {w : World} {B : Nat} {a : Option Addr} {x y : Int} (h : RowOf .i64 w B a [x, y]) : ∃ b off, a = some ⟨b, off, none⟩ ∧ w.cell? ⟨b, off, none⟩ = some (.int .i64 x) ∧ w.cell? ⟨b, off + 1, none⟩ = some (.int .i64 y) := by
  obtain ⟨b, off, rfl, _, hc⟩ := h 0 x rfl
  obtain ⟨b', off', e, _, hc'⟩ := h 1 y rfl
  cases e
  exact ⟨b, off, rfl, hc, hc'⟩
theorem row_three {w : World} {B : Nat} {a : Option Addr} {x y z : Int} (h : RowOf .i64 w B a [x, y, z]) : ∃ b off, a = some ⟨b, off, none⟩ ∧ w.cell? ⟨b, off + 2, none⟩ = some (.int .i64 z) := by
  obtain ⟨b, off, rfl, _, hc⟩ := h 2 z rfl
  exact ⟨b, off, rfl, hc⟩
theorem below_one (w : World) (o : Obj) : Below w.heap.size w (w.alloc o) := (Below.refl _ _).alloc (Nat.le_refl _) _
theorem below_twice (w : World) (o o' : Obj) : Below w.heap.size w ((w.alloc o).alloc o') := ((Below.refl _ _).alloc (Nat.le_refl _) _).alloc (by simp) _
theorem lit_row {w : World} {l : List Int} {n g : Nat} (hg : w.heap[g]? = some (.cells (l.map (Value.int .i64 ·)).toArray 3)) : RowOf .i64 w w.heap.size (some ⟨g, 0, none⟩) l := fun i x hx =>
  ⟨g, 0, rfl, (Array.getElem?_eq_some_iff.1 hg).1, by rw [Nat.zero_add, cell_of_row _ _ _ _ _ _ hg]; simp [hx]⟩

set_option maxHeartbeats 1000000 in
theorem known_any (w : World) :
    Calls Try.prog 8 #[] w fun e w' => e = .returned (.bool true) ∧ Below w.heap.size w w' := by
  go_enter Try.func8, Try.ntmps8
  go_wp2_with fail
  generalize hV : World.alloc (World.alloc w _) _ = V
  have hBV : Below w.heap.size w V := by rw [← hV]; exact below_twice _ _ _
  have h1 : V.heap[w.heap.size]? = some (.cells (([1, 4] : List Int).map (Value.int .i64 ·)).toArray 3) := by
    rw [← hV]; exact (Below.heap_alloc _ _ _ (by simp)).trans (heap_alloc_new _ _)
  have h2 : V.heap[w.heap.size + 1]? = some (.cells (([3] : List Int).map (Value.int .i64 ·)).toArray 3) := by
    rw [← hV]
    have := heap_alloc_new (w.alloc (Obj.cells #[Value.int .i64 1, Value.int .i64 4] 3)) (Obj.cells #[Value.int .i64 3] 3)
    rw [show (w.alloc (Obj.cells #[Value.int .i64 1, Value.int .i64 4] 3)).heap.size = w.heap.size + 1 by simp] at this
    exact this
  refine (join_any [1, 4] [3] _ _ _ _ V (lit_row (n := 0) h1) (lit_row (n := 0) h2) (by decide) (by decide)).mono ?_
  rintro e w1 ⟨a1, c1, J, hJ, rfl, hR1, hB1⟩
  obtain rfl : J = [3, 4] := by rw [hJ.out]; decide
  have HR1 := Lib.hid hR1
  have HB1 := Lib.hid (below_next hBV hB1)
  clear hV h1 h2 hJ hR1 hB1 hBV
  go_wp2_with fail
  generalize hV : World.alloc w1 _ = V1
  have hBV : Below w1.heap.size w1 V1 := by rw [← hV]; exact below_one _ _
  have h1 : V1.heap[w1.heap.size]? = some (.cells (([1] : List Int).map (Value.int .i64 ·)).toArray 3) := by
    rw [← hV]; exact heap_alloc_new _ _
  refine (tick_any [1] _ _ 2 V1 (lit_row (n := 0) h1) (by decide)).mono ?_
  rintro e w2 ⟨a2, c2, T, hT, rfl, hR2, hB2⟩
  obtain rfl : T = [1, 0, 1] := by rw [hT.out]; decide +kernel
  have hB12 := below_next hBV hB2
  have hR12 := HR1.out.up hB12
  obtain ⟨b1, o1, rfl, d0, d1⟩ := row_two hR12
  obtain ⟨b2, o2, rfl, d2⟩ := row_three hR2
  have HR12 := Lib.hid hR12
  have HR2 := Lib.hid hR2
  have HB2 := Lib.hid (below_next HB1.out hB12)
  clear hV h1 hT hR2 hB2 hBV hB12 hR12 HR1 HB1
  have W1 := Lib.hid (show withinB [1, 0, 1] [1, 0, 1] = true by decide)
  have W2 := Lib.hid (show withinB [3, 4] [1, 0, 1] = false by decide)
  have W3 := Lib.hid (show sameB [1] [1, 0] = true by decide)
  have W4 := Lib.hid (show atN [3, 4] 1 = 4 by decide)
  have W5 := Lib.hid (show atN [3, 4] 2 = 0 by decide)
  go_wp2_with fail
  refine (cWithin_is true [1, 0, 1] [1, 0, 1] _ _ _ _ _ _ w2 W1.out HR2.out HR2.out (by decide) (by decide)).mono ?_
  rintro e w' ⟨rfl, rfl⟩
  go_wp2_with fail
  refine (cWithin_is false [3, 4] [1, 0, 1] _ _ _ _ _ _ w2 W2.out HR12.out HR2.out (by decide) (by decide)).mono ?_
  rintro e w' ⟨rfl, rfl⟩
  clear d0 d1 d2
  go_wp2_with fail
  generalize hV : World.alloc (World.alloc w2 _) _ = V2
  have hBV : Below w2.heap.size w2 V2 := by rw [← hV]; exact below_twice _ _ _
  have h1 : V2.heap[w2.heap.size]? = some (.cells (([1] : List Int).map (Value.int .i64 ·)).toArray 3) := by
    rw [← hV]; exact (Below.heap_alloc _ _ _ (by simp)).trans (heap_alloc_new _ _)
  have h2 : V2.heap[w2.heap.size + 1]? = some (.cells (([1, 0] : List Int).map (Value.int .i64 ·)).toArray 3) := by
    rw [← hV]
    have := heap_alloc_new (w2.alloc (Obj.cells #[Value.int .i64 1] 3)) (Obj.cells #[Value.int .i64 1, Value.int .i64 0] 3)
    rw [show (w2.alloc (Obj.cells #[Value.int .i64 1] 3)).heap.size = w2.heap.size + 1 by simp] at this
    exact this
  have HRV := Lib.hid (HR12.out.up hBV)
  have HBV := Lib.hid (below_next HB2.out hBV)
  refine (cSame_is true [1] [1, 0] _ _ _ _ _ _ V2 W3.out (lit_row (n := 0) h1) (lit_row (n := 0) h2) (by decide) (by decide)).mono ?_
  rintro e w' ⟨rfl, rfl⟩
  clear hV hBV h1 h2
  go_wp2_with fail
  refine (cAt_nat [3, 4] _ _ _ 1 4 V2 HRV.out W4.out).mono ?_
  rintro e w' ⟨rfl, rfl⟩
  go_wp2_with fail
  refine (cAt_nat [3, 4] _ _ _ 2 0 V2 HRV.out W5.out).mono ?_
  rintro e w' ⟨rfl, rfl⟩
  go_wp2
  go_ret
  exact ⟨rfl, HBV.out⟩
end Go.Proofs.Ytaiaipejmggbeaa
