/- What an instruction does with a thread, a lock, a once. -/
import Derived.Test.YtfcfdneganknjaaStateDo
namespace Go.Proofs.Ytfcfdneganknjaa
set_option linter.unusedVariables false
set_option linter.unusedSimpArgs false
set_option maxRecDepth 100000
open Go.ChangeShapes Go.WideShapes Go.ChangeAt Go.RowKit

set_option maxHeartbeats 1000000 in
theorem do_12 (b eb A : Nat) (t : Addr) (y z : Int) (hA : A < 6) (o3 : Int) (r : Bool) (l : List (Nat × Value)) (w : World)
    (h3 : w.cell? ⟨eb, 3, none⟩ = some (.int .i64 o3)) (hg : ∀ i, w.frozen? ⟨eb, i, none⟩ = false) (hne : b ≠ eb) (lb : b < w.heap.size)
    (ht : ∀ u : World, u.heap[b]? = w.heap[b]? → Calls Try.prog 73 #[.pointer (some ⟨b, 1 + A * 6, none⟩)] u fun e u' => e = .returned (.bool r) ∧ Below u.heap.size (putsB b l u) u') :
    Calls Try.prog 58 #[.pointer (some ⟨b, 0, none⟩), .pointer (some t), insV 12 A y z, .pointer (some ⟨eb, 0, none⟩)] w fun e w' => e = .returned (.bool r) ∧ Below w.heap.size (putsB b l (w.setCell ⟨eb, 3, none⟩ (.int .i64 A))) w' := by
  have hA4 : (A : Int) < 6 := by omega
  have l3 := cell_lt h3
  have HT := Lib.hid ht
  go_enter Try.func58, Try.ntmps58
  clear ht
  have d3 : (w.alloc (insO 12 A y z)).cell? ⟨eb, 3, none⟩ = some (.int .i64 o3) := ((below_box w (insO 12 A y z)).cell (p := ⟨eb, 3, none⟩) l3).trans h3
  have dg : ∀ i, (w.alloc (insO 12 A y z)).frozen? ⟨eb, i, none⟩ = false := fun i => ((below_box w (insO 12 A y z)).frozen (p := ⟨eb, i, none⟩) l3).trans (hg i)
  go_wp2_with fail
  generalize hV : World.alloc _ _ = V
  have hB1 : Below w.heap.size (w.setCell ⟨eb, 3, none⟩ (.int .i64 A)) V := by
    rw [← hV]
    have hq := below_box (w.setCell ⟨eb, 3, none⟩ (.int .i64 A)) (insO 12 A y z)
    rw [size_setCell] at hq
    exact hq
  have hN : V.heap[w.heap.size]? = some (insO 12 A y z) := by
    rw [← hV]
    have hq := heap_alloc_new (w.setCell ⟨eb, 3, none⟩ (.int .i64 A)) (insO 12 A y z)
    rw [size_setCell] at hq
    exact hq
  obtain ⟨n0, n1, n2, n3⟩ := cells4 hN
  have Hb : Hid (V.heap[b]? = w.heap[b]?) := Lib.hid ((hB1.block b lb).trans (Below.heap_setCell _ _ _ _ hne))
  have HS : Hid (w.heap.size ≤ V.heap.size) := Lib.hid (Nat.le_of_lt (cell_lt n1))
  have H1 := Lib.hid hB1
  clear hV hB1 hN d3 dg h3 hg
  go_still_tail 6, (by kernel_rfl)
  go_wp2_with (first
    | (go_at_call 73; refine (HT.out _ (by exact Hb.out)).mono ?_; rintro e u ⟨rfl, hu⟩))
  go_ret
  refine ⟨rfl, ?_⟩
  exact Below.trans (puts_both l H1.out.drew) (hu.mono HS.out)
set_option maxHeartbeats 1000000 in
theorem do_13 (b eb A : Nat) (t : Addr) (y z : Int) (hA : A < 4) (o3 : Int) (r : Bool) (l : List (Nat × Value)) (w : World)
    (h3 : w.cell? ⟨eb, 3, none⟩ = some (.int .i64 o3)) (hg : ∀ i, w.frozen? ⟨eb, i, none⟩ = false) (hne : b ≠ eb) (lb : b < w.heap.size)
    (ht : ∀ u : World, u.heap[b]? = w.heap[b]? → Calls Try.prog 74 #[.pointer (some ⟨b, 49 + A * 2, none⟩), .int .u8 13] u fun e u' => e = .returned (.bool r) ∧ Below u.heap.size (putsB b l u) u') :
    Calls Try.prog 58 #[.pointer (some ⟨b, 0, none⟩), .pointer (some t), insV 13 A y z, .pointer (some ⟨eb, 0, none⟩)] w fun e w' => e = .returned (.bool r) ∧ Below w.heap.size (putsB b l (w.setCell ⟨eb, 3, none⟩ (.int .i64 A))) w' := by
  have hA4 : (A : Int) < 4 := by omega
  have l3 := cell_lt h3
  have HT := Lib.hid ht
  go_enter Try.func58, Try.ntmps58
  clear ht
  have d3 : (w.alloc (insO 13 A y z)).cell? ⟨eb, 3, none⟩ = some (.int .i64 o3) := ((below_box w (insO 13 A y z)).cell (p := ⟨eb, 3, none⟩) l3).trans h3
  have dg : ∀ i, (w.alloc (insO 13 A y z)).frozen? ⟨eb, i, none⟩ = false := fun i => ((below_box w (insO 13 A y z)).frozen (p := ⟨eb, i, none⟩) l3).trans (hg i)
  go_wp2_with fail
  generalize hV : World.alloc _ _ = V
  have hB1 : Below w.heap.size (w.setCell ⟨eb, 3, none⟩ (.int .i64 A)) V := by
    rw [← hV]
    have hq := below_box (w.setCell ⟨eb, 3, none⟩ (.int .i64 A)) (insO 13 A y z)
    rw [size_setCell] at hq
    exact hq
  have hN : V.heap[w.heap.size]? = some (insO 13 A y z) := by
    rw [← hV]
    have hq := heap_alloc_new (w.setCell ⟨eb, 3, none⟩ (.int .i64 A)) (insO 13 A y z)
    rw [size_setCell] at hq
    exact hq
  obtain ⟨n0, n1, n2, n3⟩ := cells4 hN
  have Hb : Hid (V.heap[b]? = w.heap[b]?) := Lib.hid ((hB1.block b lb).trans (Below.heap_setCell _ _ _ _ hne))
  have HS : Hid (w.heap.size ≤ V.heap.size) := Lib.hid (Nat.le_of_lt (cell_lt n1))
  have H1 := Lib.hid hB1
  clear hV hB1 hN d3 dg h3 hg
  go_still_tail 8, (by kernel_rfl)
  go_wp2_with (first
    | (go_at_call 74; refine (HT.out _ (by exact Hb.out)).mono ?_; rintro e u ⟨rfl, hu⟩))
  go_ret
  refine ⟨rfl, ?_⟩
  exact Below.trans (puts_both l H1.out.drew) (hu.mono HS.out)
set_option maxHeartbeats 1000000 in
theorem do_14 (b eb A : Nat) (t : Addr) (y z : Int) (hA : A < 4) (o3 : Int) (r : Bool) (l : List (Nat × Value)) (w : World)
    (h3 : w.cell? ⟨eb, 3, none⟩ = some (.int .i64 o3)) (hg : ∀ i, w.frozen? ⟨eb, i, none⟩ = false) (hne : b ≠ eb) (lb : b < w.heap.size)
    (ht : ∀ u : World, u.heap[b]? = w.heap[b]? → Calls Try.prog 74 #[.pointer (some ⟨b, 49 + A * 2, none⟩), .int .u8 14] u fun e u' => e = .returned (.bool r) ∧ Below u.heap.size (putsB b l u) u') :
    Calls Try.prog 58 #[.pointer (some ⟨b, 0, none⟩), .pointer (some t), insV 14 A y z, .pointer (some ⟨eb, 0, none⟩)] w fun e w' => e = .returned (.bool r) ∧ Below w.heap.size (putsB b l (w.setCell ⟨eb, 3, none⟩ (.int .i64 A))) w' := by
  have hA4 : (A : Int) < 4 := by omega
  have l3 := cell_lt h3
  have HT := Lib.hid ht
  go_enter Try.func58, Try.ntmps58
  clear ht
  have d3 : (w.alloc (insO 14 A y z)).cell? ⟨eb, 3, none⟩ = some (.int .i64 o3) := ((below_box w (insO 14 A y z)).cell (p := ⟨eb, 3, none⟩) l3).trans h3
  have dg : ∀ i, (w.alloc (insO 14 A y z)).frozen? ⟨eb, i, none⟩ = false := fun i => ((below_box w (insO 14 A y z)).frozen (p := ⟨eb, i, none⟩) l3).trans (hg i)
  go_wp2_with fail
  generalize hV : World.alloc _ _ = V
  have hB1 : Below w.heap.size (w.setCell ⟨eb, 3, none⟩ (.int .i64 A)) V := by
    rw [← hV]
    have hq := below_box (w.setCell ⟨eb, 3, none⟩ (.int .i64 A)) (insO 14 A y z)
    rw [size_setCell] at hq
    exact hq
  have hN : V.heap[w.heap.size]? = some (insO 14 A y z) := by
    rw [← hV]
    have hq := heap_alloc_new (w.setCell ⟨eb, 3, none⟩ (.int .i64 A)) (insO 14 A y z)
    rw [size_setCell] at hq
    exact hq
  obtain ⟨n0, n1, n2, n3⟩ := cells4 hN
  have Hb : Hid (V.heap[b]? = w.heap[b]?) := Lib.hid ((hB1.block b lb).trans (Below.heap_setCell _ _ _ _ hne))
  have HS : Hid (w.heap.size ≤ V.heap.size) := Lib.hid (Nat.le_of_lt (cell_lt n1))
  have H1 := Lib.hid hB1
  clear hV hB1 hN d3 dg h3 hg
  go_still_tail 8, (by kernel_rfl)
  go_wp2_with (first
    | (go_at_call 74; refine (HT.out _ (by exact Hb.out)).mono ?_; rintro e u ⟨rfl, hu⟩))
  go_ret
  refine ⟨rfl, ?_⟩
  exact Below.trans (puts_both l H1.out.drew) (hu.mono HS.out)
set_option maxHeartbeats 1000000 in
theorem do_15 (b eb A : Nat) (t : Addr) (y z : Int) (hA : A < 4) (o3 : Int) (r : Bool) (l : List (Nat × Value)) (w : World)
    (h3 : w.cell? ⟨eb, 3, none⟩ = some (.int .i64 o3)) (hg : ∀ i, w.frozen? ⟨eb, i, none⟩ = false) (hne : b ≠ eb) (lb : b < w.heap.size)
    (ht : ∀ u : World, u.heap[b]? = w.heap[b]? → Calls Try.prog 74 #[.pointer (some ⟨b, 49 + A * 2, none⟩), .int .u8 15] u fun e u' => e = .returned (.bool r) ∧ Below u.heap.size (putsB b l u) u') :
    Calls Try.prog 58 #[.pointer (some ⟨b, 0, none⟩), .pointer (some t), insV 15 A y z, .pointer (some ⟨eb, 0, none⟩)] w fun e w' => e = .returned (.bool r) ∧ Below w.heap.size (putsB b l (w.setCell ⟨eb, 3, none⟩ (.int .i64 A))) w' := by
  have hA4 : (A : Int) < 4 := by omega
  have l3 := cell_lt h3
  have HT := Lib.hid ht
  go_enter Try.func58, Try.ntmps58
  clear ht
  have d3 : (w.alloc (insO 15 A y z)).cell? ⟨eb, 3, none⟩ = some (.int .i64 o3) := ((below_box w (insO 15 A y z)).cell (p := ⟨eb, 3, none⟩) l3).trans h3
  have dg : ∀ i, (w.alloc (insO 15 A y z)).frozen? ⟨eb, i, none⟩ = false := fun i => ((below_box w (insO 15 A y z)).frozen (p := ⟨eb, i, none⟩) l3).trans (hg i)
  go_wp2_with fail
  generalize hV : World.alloc _ _ = V
  have hB1 : Below w.heap.size (w.setCell ⟨eb, 3, none⟩ (.int .i64 A)) V := by
    rw [← hV]
    have hq := below_box (w.setCell ⟨eb, 3, none⟩ (.int .i64 A)) (insO 15 A y z)
    rw [size_setCell] at hq
    exact hq
  have hN : V.heap[w.heap.size]? = some (insO 15 A y z) := by
    rw [← hV]
    have hq := heap_alloc_new (w.setCell ⟨eb, 3, none⟩ (.int .i64 A)) (insO 15 A y z)
    rw [size_setCell] at hq
    exact hq
  obtain ⟨n0, n1, n2, n3⟩ := cells4 hN
  have Hb : Hid (V.heap[b]? = w.heap[b]?) := Lib.hid ((hB1.block b lb).trans (Below.heap_setCell _ _ _ _ hne))
  have HS : Hid (w.heap.size ≤ V.heap.size) := Lib.hid (Nat.le_of_lt (cell_lt n1))
  have H1 := Lib.hid hB1
  clear hV hB1 hN d3 dg h3 hg
  go_still_tail 8, (by kernel_rfl)
  go_wp2_with (first
    | (go_at_call 74; refine (HT.out _ (by exact Hb.out)).mono ?_; rintro e u ⟨rfl, hu⟩))
  go_ret
  refine ⟨rfl, ?_⟩
  exact Below.trans (puts_both l H1.out.drew) (hu.mono HS.out)
set_option maxHeartbeats 1000000 in
theorem do_16 (b eb A : Nat) (t : Addr) (y z : Int) (hA : A < 4) (o3 : Int) (r : Bool) (l : List (Nat × Value)) (w : World)
    (h3 : w.cell? ⟨eb, 3, none⟩ = some (.int .i64 o3)) (hg : ∀ i, w.frozen? ⟨eb, i, none⟩ = false) (hne : b ≠ eb) (lb : b < w.heap.size)
    (ht : ∀ u : World, u.heap[b]? = w.heap[b]? → Calls Try.prog 74 #[.pointer (some ⟨b, 49 + A * 2, none⟩), .int .u8 16] u fun e u' => e = .returned (.bool r) ∧ Below u.heap.size (putsB b l u) u') :
    Calls Try.prog 58 #[.pointer (some ⟨b, 0, none⟩), .pointer (some t), insV 16 A y z, .pointer (some ⟨eb, 0, none⟩)] w fun e w' => e = .returned (.bool r) ∧ Below w.heap.size (putsB b l (w.setCell ⟨eb, 3, none⟩ (.int .i64 A))) w' := by
  have hA4 : (A : Int) < 4 := by omega
  have l3 := cell_lt h3
  have HT := Lib.hid ht
  go_enter Try.func58, Try.ntmps58
  clear ht
  have d3 : (w.alloc (insO 16 A y z)).cell? ⟨eb, 3, none⟩ = some (.int .i64 o3) := ((below_box w (insO 16 A y z)).cell (p := ⟨eb, 3, none⟩) l3).trans h3
  have dg : ∀ i, (w.alloc (insO 16 A y z)).frozen? ⟨eb, i, none⟩ = false := fun i => ((below_box w (insO 16 A y z)).frozen (p := ⟨eb, i, none⟩) l3).trans (hg i)
  go_wp2_with fail
  generalize hV : World.alloc _ _ = V
  have hB1 : Below w.heap.size (w.setCell ⟨eb, 3, none⟩ (.int .i64 A)) V := by
    rw [← hV]
    have hq := below_box (w.setCell ⟨eb, 3, none⟩ (.int .i64 A)) (insO 16 A y z)
    rw [size_setCell] at hq
    exact hq
  have hN : V.heap[w.heap.size]? = some (insO 16 A y z) := by
    rw [← hV]
    have hq := heap_alloc_new (w.setCell ⟨eb, 3, none⟩ (.int .i64 A)) (insO 16 A y z)
    rw [size_setCell] at hq
    exact hq
  obtain ⟨n0, n1, n2, n3⟩ := cells4 hN
  have Hb : Hid (V.heap[b]? = w.heap[b]?) := Lib.hid ((hB1.block b lb).trans (Below.heap_setCell _ _ _ _ hne))
  have HS : Hid (w.heap.size ≤ V.heap.size) := Lib.hid (Nat.le_of_lt (cell_lt n1))
  have H1 := Lib.hid hB1
  clear hV hB1 hN d3 dg h3 hg
  go_still_tail 8, (by kernel_rfl)
  go_wp2_with (first
    | (go_at_call 74; refine (HT.out _ (by exact Hb.out)).mono ?_; rintro e u ⟨rfl, hu⟩))
  go_ret
  refine ⟨rfl, ?_⟩
  exact Below.trans (puts_both l H1.out.drew) (hu.mono HS.out)
set_option maxHeartbeats 1000000 in
theorem do_27 (b eb A : Nat) (t : Addr) (y z : Int) (hA : A < 4) (o3 : Int) (r : Bool) (l : List (Nat × Value)) (w : World)
    (h3 : w.cell? ⟨eb, 3, none⟩ = some (.int .i64 o3)) (hg : ∀ i, w.frozen? ⟨eb, i, none⟩ = false) (hne : b ≠ eb) (lb : b < w.heap.size)
    (ht : ∀ u : World, u.heap[b]? = w.heap[b]? → Calls Try.prog 79 #[.pointer (some ⟨b, 85 + A, none⟩)] u fun e u' => e = .returned (.bool r) ∧ Below u.heap.size (putsB b l u) u') :
    Calls Try.prog 58 #[.pointer (some ⟨b, 0, none⟩), .pointer (some t), insV 27 A y z, .pointer (some ⟨eb, 0, none⟩)] w fun e w' => e = .returned (.bool r) ∧ Below w.heap.size (putsB b l (w.setCell ⟨eb, 3, none⟩ (.int .i64 A))) w' := by
  have hA4 : (A : Int) < 4 := by omega
  have l3 := cell_lt h3
  have HT := Lib.hid ht
  go_enter Try.func58, Try.ntmps58
  clear ht
  have d3 : (w.alloc (insO 27 A y z)).cell? ⟨eb, 3, none⟩ = some (.int .i64 o3) := ((below_box w (insO 27 A y z)).cell (p := ⟨eb, 3, none⟩) l3).trans h3
  have dg : ∀ i, (w.alloc (insO 27 A y z)).frozen? ⟨eb, i, none⟩ = false := fun i => ((below_box w (insO 27 A y z)).frozen (p := ⟨eb, i, none⟩) l3).trans (hg i)
  go_wp2_with fail
  generalize hV : World.alloc _ _ = V
  have hB1 : Below w.heap.size (w.setCell ⟨eb, 3, none⟩ (.int .i64 A)) V := by
    rw [← hV]
    have hq := below_box (w.setCell ⟨eb, 3, none⟩ (.int .i64 A)) (insO 27 A y z)
    rw [size_setCell] at hq
    exact hq
  have hN : V.heap[w.heap.size]? = some (insO 27 A y z) := by
    rw [← hV]
    have hq := heap_alloc_new (w.setCell ⟨eb, 3, none⟩ (.int .i64 A)) (insO 27 A y z)
    rw [size_setCell] at hq
    exact hq
  obtain ⟨n0, n1, n2, n3⟩ := cells4 hN
  have Hb : Hid (V.heap[b]? = w.heap[b]?) := Lib.hid ((hB1.block b lb).trans (Below.heap_setCell _ _ _ _ hne))
  have HS : Hid (w.heap.size ≤ V.heap.size) := Lib.hid (Nat.le_of_lt (cell_lt n1))
  have H1 := Lib.hid hB1
  clear hV hB1 hN d3 dg h3 hg
  go_still_tail 6, (by kernel_rfl)
  go_wp2_with (first
    | (go_at_call 79; refine (HT.out _ (by exact Hb.out)).mono ?_; rintro e u ⟨rfl, hu⟩))
  go_ret
  refine ⟨rfl, ?_⟩
  exact Below.trans (puts_both l H1.out.drew) (hu.mono HS.out)
end Go.Proofs.Ytfcfdneganknjaa
