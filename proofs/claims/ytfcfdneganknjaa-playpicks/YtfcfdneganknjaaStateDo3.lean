/- Grow, Wait, Begin, Print and what does nothing. -/
import Derived.Test.YtfcfdneganknjaaStateDo2
namespace Go.Proofs.Ytfcfdneganknjaa
set_option linter.unusedVariables false
set_option linter.unusedSimpArgs false
set_option maxRecDepth 100000
open Go.ChangeShapes Go.WideShapes Go.ChangeAt Go.RowKit

set_option maxHeartbeats 1000000 in
theorem do_24 (b eb A : Nat) (t : Addr) (y z : Int) (hA : A < 4) (o3 o4 : Int) (r : Bool) (l : List (Nat × Value)) (w : World)
    (h3 : w.cell? ⟨eb, 3, none⟩ = some (.int .i64 o3)) (h4 : w.cell? ⟨eb, 4, none⟩ = some (.int .i64 o4)) (hg : ∀ i, w.frozen? ⟨eb, i, none⟩ = false) (hne : b ≠ eb) (lb : b < w.heap.size)
    (ht : ∀ u : World, u.heap[b]? = w.heap[b]? → Calls Try.prog 76 #[.pointer (some ⟨b, 81 + A, none⟩), .int .i64 y] u fun e u' => e = .returned (.bool r) ∧ Below u.heap.size (putsB b l u) u') :
    Calls Try.prog 58 #[.pointer (some ⟨b, 0, none⟩), .pointer (some t), insV 24 A y z, .pointer (some ⟨eb, 0, none⟩)] w fun e w' => e = .returned (.bool r) ∧ Below w.heap.size (putsB b l ((w.setCell ⟨eb, 3, none⟩ (.int .i64 A)).setCell ⟨eb, 4, none⟩ (.int .i64 y))) w' := by
  have hA4 : (A : Int) < 4 := by omega
  have l3 := cell_lt h3
  have HT := Lib.hid ht
  go_enter Try.func58, Try.ntmps58
  clear ht
  go_wp2_with fail
  generalize hV : World.alloc w _ = V
  have hB : Below w.heap.size w V := by rw [← hV]; exact below_box _ _
  have hN : V.heap[w.heap.size]? = some (insO 24 A y z) := by rw [← hV]; exact heap_alloc_new _ _
  obtain ⟨n0, n1, n2, n3⟩ := cells4 hN
  have d3 : V.cell? ⟨eb, 3, none⟩ = some (.int .i64 o3) := (hB.cell (p := ⟨eb, 3, none⟩) l3).trans h3
  have d4 : V.cell? ⟨eb, 4, none⟩ = some (.int .i64 o4) := (hB.cell (p := ⟨eb, 4, none⟩) l3).trans h4
  have dg : ∀ i, V.frozen? ⟨eb, i, none⟩ = false := fun i => (hB.frozen (p := ⟨eb, i, none⟩) l3).trans (hg i)
  have Hb : Hid (V.heap[b]? = w.heap[b]?) := Lib.hid (hB.block b lb)
  have HB := Lib.hid hB
  have HL := Lib.hid (show w.heap.size < V.heap.size from cell_lt n1)
  clear hV hB hN h3 h4 hg
  go_wp2_with fail
  go_region
  have Hl : w.heap.size ≠ eb := by omega
  generalize hU : World.drew _ = U
  have e1 : U.cell? ⟨w.heap.size, 1, none⟩ = some (.int .i64 A) := by rw [← hU]; exact (cell_two Hl).trans n1
  have e2 : U.cell? ⟨w.heap.size, 2, none⟩ = some (.int .i64 y) := by rw [← hU]; exact (cell_two Hl).trans n2
  have HbU : Hid (U.heap[b]? = w.heap[b]?) := Lib.hid (by rw [← hU]; exact (Below.heap_setCell _ _ _ _ hne).trans ((Below.heap_setCell _ _ _ _ hne).trans Hb.out))
  have HU := Lib.hid hU
  have HS : Hid (w.heap.size ≤ U.heap.size) := Lib.hid (by rw [← hU]; have := HL.out; simp; omega)
  clear hU n0 n1 n2 n3 d3 d4 dg
  go_wp2_with fail
  go_still_tail 8, (by kernel_rfl)
  go_wp2_with (first
    | (go_at_call 76; refine (HT.out _ (by exact HbU.out)).mono ?_; rintro e u ⟨rfl, hu⟩))
  go_ret
  refine ⟨rfl, ?_⟩
  refine Below.trans (puts_both l ?_) (hu.mono HS.out)
  rw [← HU.out]
  exact ((below_both (below_both HB.out _ _) _ _).drew).drew
set_option maxHeartbeats 1000000 in
theorem do_25 (b eb : Nat) (t : Addr) (x y z : Int) (o3 : Int) (w : World)
    (h3 : w.cell? ⟨eb, 3, none⟩ = some (.int .i64 o3)) (hg : ∀ i, w.frozen? ⟨eb, i, none⟩ = false) :
    Calls Try.prog 58 #[.pointer (some ⟨b, 0, none⟩), .pointer (some t), insV 25 x y z, .pointer (some ⟨eb, 0, none⟩)] w fun e w' => e = .returned (.bool true) ∧ Below w.heap.size (w.setCell ⟨eb, 3, none⟩ (.int .i64 x)) w' := by
  have l3 := cell_lt h3
  go_enter Try.func58, Try.ntmps58
  have d3 : (w.alloc (insO 25 x y z)).cell? ⟨eb, 3, none⟩ = some (.int .i64 o3) := ((below_box w (insO 25 x y z)).cell (p := ⟨eb, 3, none⟩) l3).trans h3
  have dg : ∀ i, (w.alloc (insO 25 x y z)).frozen? ⟨eb, i, none⟩ = false := fun i => ((below_box w (insO 25 x y z)).frozen (p := ⟨eb, i, none⟩) l3).trans (hg i)
  go_wp2
  go_ret
  have hq := below_box (w.setCell ⟨eb, 3, none⟩ (.int .i64 x)) (insO 25 x y z)
  rw [size_setCell] at hq
  exact ⟨rfl, hq⟩
set_option maxHeartbeats 1000000 in
theorem do_0 (b eb : Nat) (t : Addr) (x y z : Int) (w : World) :
    Calls Try.prog 58 #[.pointer (some ⟨b, 0, none⟩), .pointer (some t), insV 0 x y z, .pointer (some ⟨eb, 0, none⟩)] w fun e w' => e = .returned (.bool true) ∧ Below w.heap.size w w' := by
  go_enter Try.func58, Try.ntmps58
  go_wp2
  go_ret
  exact ⟨rfl, below_box _ _⟩
end Go.Proofs.Ytfcfdneganknjaa
