/- What the laws of this seat stand on, part 8. -/
import Derived.Test.YtglafbajbiengaaGreatPa0
import Derived.Test.YtglafbajbiengaaGreatPa7
set_option linter.unusedVariables false
set_option linter.unusedSimpArgs false
set_option maxRecDepth 100000
set_option maxHeartbeats 40000000
namespace Go.Proofs.YtglafbajbiengaaGreat
open Go.ChangeShapes Go.WideShapes Go.ChangeAt Go.RowKit
theorem do_12 (b eb A : Nat) (t : Addr) (y z : Int) (hA : A < 6) (o3 : Int) (r : Bool) (l : List (Nat × Value)) (w : World)
    (h3 : w.cell? ⟨eb, 3, none⟩ = some (.int .i64 o3)) (hg : ∀ i, w.frozen? ⟨eb, i, none⟩ = false) (hne : b ≠ eb) (lb : b < w.heap.size)
    (ht : ∀ u : World, u.heap[b]? = w.heap[b]? → Calls Tryz.prog 96 #[.pointer (some ⟨b, 1 + A * 6, none⟩)] u fun e u' => e = .returned (.bool r) ∧ Below u.heap.size (putsB b l u) u') :
    Calls Tryz.prog 74 #[.pointer (some ⟨b, 0, none⟩), .pointer (some t), insV 12 A y z, .pointer (some ⟨eb, 0, none⟩)] w fun e w' => e = .returned (.bool r) ∧ Below w.heap.size (putsB b l (w.setCell ⟨eb, 3, none⟩ (.int .i64 A))) w' := by
  have hA4 : (A : Int) < 6 := by omega
  have l3 := cell_lt h3
  have HT := Lib.hid ht
  go_enter Tryz.func74, Tryz.ntmps74
  clear ht
  have d3 : (w.alloc (insO 12 A y z)).cell? ⟨eb, 3, none⟩ = some (.int .i64 o3) := ((below_box w (insO 12 A y z)).cell (p := ⟨eb, 3, none⟩) l3).trans h3
  have dg : ∀ i, (w.alloc (insO 12 A y z)).frozen? ⟨eb, i, none⟩ = false := fun i => ((below_box w (insO 12 A y z)).frozen (p := ⟨eb, i, none⟩) l3).trans (hg i)
  go_wp2_with fail
  generalize hV : World.alloc _ _ = V
  have hB1 : Below w.heap.size (w.setCell ⟨eb, 3, none⟩ (.int .i64 A)) V := by
    rw [← hV]
    have hq := below_box (w.setCell ⟨eb, 3, none⟩ (.int .i64 A)) (insO 12 A y z)
    rw [size_setCell] at hq
    exact hq
  have hN : V.heap[w.heap.size]? = some (insO 12 A y z) := by
    rw [← hV]
    have hq := heap_alloc_new (w.setCell ⟨eb, 3, none⟩ (.int .i64 A)) (insO 12 A y z)
    rw [size_setCell] at hq
    exact hq
  obtain ⟨n0, n1, n2, n3⟩ := cells4 hN
  have Hb : Hid (V.heap[b]? = w.heap[b]?) := Lib.hid ((hB1.block b lb).trans (Below.heap_setCell _ _ _ _ hne))
  have HS : Hid (w.heap.size ≤ V.heap.size) := Lib.hid (Nat.le_of_lt (cell_lt n1))
  have H1 := Lib.hid hB1
  clear hV hB1 hN d3 dg h3 hg
  go_still_tail 6, (by kernel_rfl)
  go_wp2_with (first
    | (go_at_call 96; refine (HT.out _ (by exact Hb.out)).mono ?_; rintro e u ⟨rfl, hu⟩))
  go_ret
  refine ⟨rfl, ?_⟩
  exact Below.trans (puts_both l H1.out.drew) (hu.mono HS.out)
theorem do_13 (b eb A : Nat) (t : Addr) (y z : Int) (hA : A < 4) (o3 : Int) (r : Bool) (l : List (Nat × Value)) (w : World)
    (h3 : w.cell? ⟨eb, 3, none⟩ = some (.int .i64 o3)) (hg : ∀ i, w.frozen? ⟨eb, i, none⟩ = false) (hne : b ≠ eb) (lb : b < w.heap.size)
    (ht : ∀ u : World, u.heap[b]? = w.heap[b]? → Calls Tryz.prog 97 #[.pointer (some ⟨b, 49 + A * 2, none⟩), .int .u8 13] u fun e u' => e = .returned (.bool r) ∧ Below u.heap.size (putsB b l u) u') :
    Calls Tryz.prog 74 #[.pointer (some ⟨b, 0, none⟩), .pointer (some t), insV 13 A y z, .pointer (some ⟨eb, 0, none⟩)] w fun e w' => e = .returned (.bool r) ∧ Below w.heap.size (putsB b l (w.setCell ⟨eb, 3, none⟩ (.int .i64 A))) w' := by
  have hA4 : (A : Int) < 4 := by omega
  have l3 := cell_lt h3
  have HT := Lib.hid ht
  go_enter Tryz.func74, Tryz.ntmps74
  clear ht
  have d3 : (w.alloc (insO 13 A y z)).cell? ⟨eb, 3, none⟩ = some (.int .i64 o3) := ((below_box w (insO 13 A y z)).cell (p := ⟨eb, 3, none⟩) l3).trans h3
  have dg : ∀ i, (w.alloc (insO 13 A y z)).frozen? ⟨eb, i, none⟩ = false := fun i => ((below_box w (insO 13 A y z)).frozen (p := ⟨eb, i, none⟩) l3).trans (hg i)
  go_wp2_with fail
  generalize hV : World.alloc _ _ = V
  have hB1 : Below w.heap.size (w.setCell ⟨eb, 3, none⟩ (.int .i64 A)) V := by
    rw [← hV]
    have hq := below_box (w.setCell ⟨eb, 3, none⟩ (.int .i64 A)) (insO 13 A y z)
    rw [size_setCell] at hq
    exact hq
  have hN : V.heap[w.heap.size]? = some (insO 13 A y z) := by
    rw [← hV]
    have hq := heap_alloc_new (w.setCell ⟨eb, 3, none⟩ (.int .i64 A)) (insO 13 A y z)
    rw [size_setCell] at hq
    exact hq
  obtain ⟨n0, n1, n2, n3⟩ := cells4 hN
  have Hb : Hid (V.heap[b]? = w.heap[b]?) := Lib.hid ((hB1.block b lb).trans (Below.heap_setCell _ _ _ _ hne))
  have HS : Hid (w.heap.size ≤ V.heap.size) := Lib.hid (Nat.le_of_lt (cell_lt n1))
  have H1 := Lib.hid hB1
  clear hV hB1 hN d3 dg h3 hg
  go_still_tail 8, (by kernel_rfl)
  go_wp2_with (first
    | (go_at_call 97; refine (HT.out _ (by exact Hb.out)).mono ?_; rintro e u ⟨rfl, hu⟩))
  go_ret
  refine ⟨rfl, ?_⟩
  exact Below.trans (puts_both l H1.out.drew) (hu.mono HS.out)
theorem do_14 (b eb A : Nat) (t : Addr) (y z : Int) (hA : A < 4) (o3 : Int) (r : Bool) (l : List (Nat × Value)) (w : World)
    (h3 : w.cell? ⟨eb, 3, none⟩ = some (.int .i64 o3)) (hg : ∀ i, w.frozen? ⟨eb, i, none⟩ = false) (hne : b ≠ eb) (lb : b < w.heap.size)
    (ht : ∀ u : World, u.heap[b]? = w.heap[b]? → Calls Tryz.prog 97 #[.pointer (some ⟨b, 49 + A * 2, none⟩), .int .u8 14] u fun e u' => e = .returned (.bool r) ∧ Below u.heap.size (putsB b l u) u') :
    Calls Tryz.prog 74 #[.pointer (some ⟨b, 0, none⟩), .pointer (some t), insV 14 A y z, .pointer (some ⟨eb, 0, none⟩)] w fun e w' => e = .returned (.bool r) ∧ Below w.heap.size (putsB b l (w.setCell ⟨eb, 3, none⟩ (.int .i64 A))) w' := by
  have hA4 : (A : Int) < 4 := by omega
  have l3 := cell_lt h3
  have HT := Lib.hid ht
  go_enter Tryz.func74, Tryz.ntmps74
  clear ht
  have d3 : (w.alloc (insO 14 A y z)).cell? ⟨eb, 3, none⟩ = some (.int .i64 o3) := ((below_box w (insO 14 A y z)).cell (p := ⟨eb, 3, none⟩) l3).trans h3
  have dg : ∀ i, (w.alloc (insO 14 A y z)).frozen? ⟨eb, i, none⟩ = false := fun i => ((below_box w (insO 14 A y z)).frozen (p := ⟨eb, i, none⟩) l3).trans (hg i)
  go_wp2_with fail
  generalize hV : World.alloc _ _ = V
  have hB1 : Below w.heap.size (w.setCell ⟨eb, 3, none⟩ (.int .i64 A)) V := by
    rw [← hV]
    have hq := below_box (w.setCell ⟨eb, 3, none⟩ (.int .i64 A)) (insO 14 A y z)
    rw [size_setCell] at hq
    exact hq
  have hN : V.heap[w.heap.size]? = some (insO 14 A y z) := by
    rw [← hV]
    have hq := heap_alloc_new (w.setCell ⟨eb, 3, none⟩ (.int .i64 A)) (insO 14 A y z)
    rw [size_setCell] at hq
    exact hq
  obtain ⟨n0, n1, n2, n3⟩ := cells4 hN
  have Hb : Hid (V.heap[b]? = w.heap[b]?) := Lib.hid ((hB1.block b lb).trans (Below.heap_setCell _ _ _ _ hne))
  have HS : Hid (w.heap.size ≤ V.heap.size) := Lib.hid (Nat.le_of_lt (cell_lt n1))
  have H1 := Lib.hid hB1
  clear hV hB1 hN d3 dg h3 hg
  go_still_tail 8, (by kernel_rfl)
  go_wp2_with (first
    | (go_at_call 97; refine (HT.out _ (by exact Hb.out)).mono ?_; rintro e u ⟨rfl, hu⟩))
  go_ret
  refine ⟨rfl, ?_⟩
  exact Below.trans (puts_both l H1.out.drew) (hu.mono HS.out)
theorem do_15 (b eb A : Nat) (t : Addr) (y z : Int) (hA : A < 4) (o3 : Int) (r : Bool) (l : List (Nat × Value)) (w : World)
    (h3 : w.cell? ⟨eb, 3, none⟩ = some (.int .i64 o3)) (hg : ∀ i, w.frozen? ⟨eb, i, none⟩ = false) (hne : b ≠ eb) (lb : b < w.heap.size)
    (ht : ∀ u : World, u.heap[b]? = w.heap[b]? → Calls Tryz.prog 97 #[.pointer (some ⟨b, 49 + A * 2, none⟩), .int .u8 15] u fun e u' => e = .returned (.bool r) ∧ Below u.heap.size (putsB b l u) u') :
    Calls Tryz.prog 74 #[.pointer (some ⟨b, 0, none⟩), .pointer (some t), insV 15 A y z, .pointer (some ⟨eb, 0, none⟩)] w fun e w' => e = .returned (.bool r) ∧ Below w.heap.size (putsB b l (w.setCell ⟨eb, 3, none⟩ (.int .i64 A))) w' := by
  have hA4 : (A : Int) < 4 := by omega
  have l3 := cell_lt h3
  have HT := Lib.hid ht
  go_enter Tryz.func74, Tryz.ntmps74
  clear ht
  have d3 : (w.alloc (insO 15 A y z)).cell? ⟨eb, 3, none⟩ = some (.int .i64 o3) := ((below_box w (insO 15 A y z)).cell (p := ⟨eb, 3, none⟩) l3).trans h3
  have dg : ∀ i, (w.alloc (insO 15 A y z)).frozen? ⟨eb, i, none⟩ = false := fun i => ((below_box w (insO 15 A y z)).frozen (p := ⟨eb, i, none⟩) l3).trans (hg i)
  go_wp2_with fail
  generalize hV : World.alloc _ _ = V
  have hB1 : Below w.heap.size (w.setCell ⟨eb, 3, none⟩ (.int .i64 A)) V := by
    rw [← hV]
    have hq := below_box (w.setCell ⟨eb, 3, none⟩ (.int .i64 A)) (insO 15 A y z)
    rw [size_setCell] at hq
    exact hq
  have hN : V.heap[w.heap.size]? = some (insO 15 A y z) := by
    rw [← hV]
    have hq := heap_alloc_new (w.setCell ⟨eb, 3, none⟩ (.int .i64 A)) (insO 15 A y z)
    rw [size_setCell] at hq
    exact hq
  obtain ⟨n0, n1, n2, n3⟩ := cells4 hN
  have Hb : Hid (V.heap[b]? = w.heap[b]?) := Lib.hid ((hB1.block b lb).trans (Below.heap_setCell _ _ _ _ hne))
  have HS : Hid (w.heap.size ≤ V.heap.size) := Lib.hid (Nat.le_of_lt (cell_lt n1))
  have H1 := Lib.hid hB1
  clear hV hB1 hN d3 dg h3 hg
  go_still_tail 8, (by kernel_rfl)
  go_wp2_with (first
    | (go_at_call 97; refine (HT.out _ (by exact Hb.out)).mono ?_; rintro e u ⟨rfl, hu⟩))
  go_ret
  refine ⟨rfl, ?_⟩
  exact Below.trans (puts_both l H1.out.drew) (hu.mono HS.out)
theorem do_16 (b eb A : Nat) (t : Addr) (y z : Int) (hA : A < 4) (o3 : Int) (r : Bool) (l : List (Nat × Value)) (w : World)
    (h3 : w.cell? ⟨eb, 3, none⟩ = some (.int .i64 o3)) (hg : ∀ i, w.frozen? ⟨eb, i, none⟩ = false) (hne : b ≠ eb) (lb : b < w.heap.size)
    (ht : ∀ u : World, u.heap[b]? = w.heap[b]? → Calls Tryz.prog 97 #[.pointer (some ⟨b, 49 + A * 2, none⟩), .int .u8 16] u fun e u' => e = .returned (.bool r) ∧ Below u.heap.size (putsB b l u) u') :
    Calls Tryz.prog 74 #[.pointer (some ⟨b, 0, none⟩), .pointer (some t), insV 16 A y z, .pointer (some ⟨eb, 0, none⟩)] w fun e w' => e = .returned (.bool r) ∧ Below w.heap.size (putsB b l (w.setCell ⟨eb, 3, none⟩ (.int .i64 A))) w' := by
  have hA4 : (A : Int) < 4 := by omega
  have l3 := cell_lt h3
  have HT := Lib.hid ht
  go_enter Tryz.func74, Tryz.ntmps74
  clear ht
  have d3 : (w.alloc (insO 16 A y z)).cell? ⟨eb, 3, none⟩ = some (.int .i64 o3) := ((below_box w (insO 16 A y z)).cell (p := ⟨eb, 3, none⟩) l3).trans h3
  have dg : ∀ i, (w.alloc (insO 16 A y z)).frozen? ⟨eb, i, none⟩ = false := fun i => ((below_box w (insO 16 A y z)).frozen (p := ⟨eb, i, none⟩) l3).trans (hg i)
  go_wp2_with fail
  generalize hV : World.alloc _ _ = V
  have hB1 : Below w.heap.size (w.setCell ⟨eb, 3, none⟩ (.int .i64 A)) V := by
    rw [← hV]
    have hq := below_box (w.setCell ⟨eb, 3, none⟩ (.int .i64 A)) (insO 16 A y z)
    rw [size_setCell] at hq
    exact hq
  have hN : V.heap[w.heap.size]? = some (insO 16 A y z) := by
    rw [← hV]
    have hq := heap_alloc_new (w.setCell ⟨eb, 3, none⟩ (.int .i64 A)) (insO 16 A y z)
    rw [size_setCell] at hq
    exact hq
  obtain ⟨n0, n1, n2, n3⟩ := cells4 hN
  have Hb : Hid (V.heap[b]? = w.heap[b]?) := Lib.hid ((hB1.block b lb).trans (Below.heap_setCell _ _ _ _ hne))
  have HS : Hid (w.heap.size ≤ V.heap.size) := Lib.hid (Nat.le_of_lt (cell_lt n1))
  have H1 := Lib.hid hB1
  clear hV hB1 hN d3 dg h3 hg
  go_still_tail 8, (by kernel_rfl)
  go_wp2_with (first
    | (go_at_call 97; refine (HT.out _ (by exact Hb.out)).mono ?_; rintro e u ⟨rfl, hu⟩))
  go_ret
  refine ⟨rfl, ?_⟩
  exact Below.trans (puts_both l H1.out.drew) (hu.mono HS.out)
theorem do_27 (b eb A : Nat) (t : Addr) (y z : Int) (hA : A < 4) (o3 : Int) (r : Bool) (l : List (Nat × Value)) (w : World)
    (h3 : w.cell? ⟨eb, 3, none⟩ = some (.int .i64 o3)) (hg : ∀ i, w.frozen? ⟨eb, i, none⟩ = false) (hne : b ≠ eb) (lb : b < w.heap.size)
    (ht : ∀ u : World, u.heap[b]? = w.heap[b]? → Calls Tryz.prog 102 #[.pointer (some ⟨b, 85 + A, none⟩)] u fun e u' => e = .returned (.bool r) ∧ Below u.heap.size (putsB b l u) u') :
    Calls Tryz.prog 74 #[.pointer (some ⟨b, 0, none⟩), .pointer (some t), insV 27 A y z, .pointer (some ⟨eb, 0, none⟩)] w fun e w' => e = .returned (.bool r) ∧ Below w.heap.size (putsB b l (w.setCell ⟨eb, 3, none⟩ (.int .i64 A))) w' := by
  have hA4 : (A : Int) < 4 := by omega
  have l3 := cell_lt h3
  have HT := Lib.hid ht
  go_enter Tryz.func74, Tryz.ntmps74
  clear ht
  have d3 : (w.alloc (insO 27 A y z)).cell? ⟨eb, 3, none⟩ = some (.int .i64 o3) := ((below_box w (insO 27 A y z)).cell (p := ⟨eb, 3, none⟩) l3).trans h3
  have dg : ∀ i, (w.alloc (insO 27 A y z)).frozen? ⟨eb, i, none⟩ = false := fun i => ((below_box w (insO 27 A y z)).frozen (p := ⟨eb, i, none⟩) l3).trans (hg i)
  go_wp2_with fail
  generalize hV : World.alloc _ _ = V
  have hB1 : Below w.heap.size (w.setCell ⟨eb, 3, none⟩ (.int .i64 A)) V := by
    rw [← hV]
    have hq := below_box (w.setCell ⟨eb, 3, none⟩ (.int .i64 A)) (insO 27 A y z)
    rw [size_setCell] at hq
    exact hq
  have hN : V.heap[w.heap.size]? = some (insO 27 A y z) := by
    rw [← hV]
    have hq := heap_alloc_new (w.setCell ⟨eb, 3, none⟩ (.int .i64 A)) (insO 27 A y z)
    rw [size_setCell] at hq
    exact hq
  obtain ⟨n0, n1, n2, n3⟩ := cells4 hN
  have Hb : Hid (V.heap[b]? = w.heap[b]?) := Lib.hid ((hB1.block b lb).trans (Below.heap_setCell _ _ _ _ hne))
  have HS : Hid (w.heap.size ≤ V.heap.size) := Lib.hid (Nat.le_of_lt (cell_lt n1))
  have H1 := Lib.hid hB1
  clear hV hB1 hN d3 dg h3 hg
  go_still_tail 6, (by kernel_rfl)
  go_wp2_with (first
    | (go_at_call 102; refine (HT.out _ (by exact Hb.out)).mono ?_; rintro e u ⟨rfl, hu⟩))
  go_ret
  refine ⟨rfl, ?_⟩
  exact Below.trans (puts_both l H1.out.drew) (hu.mono HS.out)
theorem do_24 (b eb A : Nat) (t : Addr) (y z : Int) (hA : A < 4) (o3 o4 : Int) (r : Bool) (l : List (Nat × Value)) (w : World)
    (h3 : w.cell? ⟨eb, 3, none⟩ = some (.int .i64 o3)) (h4 : w.cell? ⟨eb, 4, none⟩ = some (.int .i64 o4)) (hg : ∀ i, w.frozen? ⟨eb, i, none⟩ = false) (hne : b ≠ eb) (lb : b < w.heap.size)
    (ht : ∀ u : World, u.heap[b]? = w.heap[b]? → Calls Tryz.prog 99 #[.pointer (some ⟨b, 81 + A, none⟩), .int .i64 y] u fun e u' => e = .returned (.bool r) ∧ Below u.heap.size (putsB b l u) u') :
    Calls Tryz.prog 74 #[.pointer (some ⟨b, 0, none⟩), .pointer (some t), insV 24 A y z, .pointer (some ⟨eb, 0, none⟩)] w fun e w' => e = .returned (.bool r) ∧ Below w.heap.size (putsB b l ((w.setCell ⟨eb, 3, none⟩ (.int .i64 A)).setCell ⟨eb, 4, none⟩ (.int .i64 y))) w' := by
  have hA4 : (A : Int) < 4 := by omega
  have l3 := cell_lt h3
  have HT := Lib.hid ht
  go_enter Tryz.func74, Tryz.ntmps74
  clear ht
  go_wp2_with fail
  generalize hV : World.alloc w _ = V
  have hB : Below w.heap.size w V := by rw [← hV]; exact below_box _ _
  have hN : V.heap[w.heap.size]? = some (insO 24 A y z) := by rw [← hV]; exact heap_alloc_new _ _
  obtain ⟨n0, n1, n2, n3⟩ := cells4 hN
  have d3 : V.cell? ⟨eb, 3, none⟩ = some (.int .i64 o3) := (hB.cell (p := ⟨eb, 3, none⟩) l3).trans h3
  have d4 : V.cell? ⟨eb, 4, none⟩ = some (.int .i64 o4) := (hB.cell (p := ⟨eb, 4, none⟩) l3).trans h4
  have dg : ∀ i, V.frozen? ⟨eb, i, none⟩ = false := fun i => (hB.frozen (p := ⟨eb, i, none⟩) l3).trans (hg i)
  have Hb : Hid (V.heap[b]? = w.heap[b]?) := Lib.hid (hB.block b lb)
  have HB := Lib.hid hB
  have HL := Lib.hid (show w.heap.size < V.heap.size from cell_lt n1)
  clear hV hB hN h3 h4 hg
  go_wp2_with fail
  go_region
  have Hl : w.heap.size ≠ eb := by omega
  generalize hU : World.drew _ = U
  have e1 : U.cell? ⟨w.heap.size, 1, none⟩ = some (.int .i64 A) := by rw [← hU]; exact (cell_two Hl).trans n1
  have e2 : U.cell? ⟨w.heap.size, 2, none⟩ = some (.int .i64 y) := by rw [← hU]; exact (cell_two Hl).trans n2
  have HbU : Hid (U.heap[b]? = w.heap[b]?) := Lib.hid (by rw [← hU]; exact (Below.heap_setCell _ _ _ _ hne).trans ((Below.heap_setCell _ _ _ _ hne).trans Hb.out))
  have HU := Lib.hid hU
  have HS : Hid (w.heap.size ≤ U.heap.size) := Lib.hid (by rw [← hU]; have := HL.out; simp; omega)
  clear hU n0 n1 n2 n3 d3 d4 dg
  go_wp2_with fail
  go_still_tail 8, (by kernel_rfl)
  go_wp2_with (first
    | (go_at_call 99; refine (HT.out _ (by exact HbU.out)).mono ?_; rintro e u ⟨rfl, hu⟩))
  go_ret
  refine ⟨rfl, ?_⟩
  refine Below.trans (puts_both l ?_) (hu.mono HS.out)
  rw [← HU.out]
  exact ((below_both (below_both HB.out _ _) _ _).drew).drew
theorem do_25 (b eb : Nat) (t : Addr) (x y z : Int) (o3 : Int) (w : World)
    (h3 : w.cell? ⟨eb, 3, none⟩ = some (.int .i64 o3)) (hg : ∀ i, w.frozen? ⟨eb, i, none⟩ = false) :
    Calls Tryz.prog 74 #[.pointer (some ⟨b, 0, none⟩), .pointer (some t), insV 25 x y z, .pointer (some ⟨eb, 0, none⟩)] w fun e w' => e = .returned (.bool true) ∧ Below w.heap.size (w.setCell ⟨eb, 3, none⟩ (.int .i64 x)) w' := by
  have l3 := cell_lt h3
  go_enter Tryz.func74, Tryz.ntmps74
  have d3 : (w.alloc (insO 25 x y z)).cell? ⟨eb, 3, none⟩ = some (.int .i64 o3) := ((below_box w (insO 25 x y z)).cell (p := ⟨eb, 3, none⟩) l3).trans h3
  have dg : ∀ i, (w.alloc (insO 25 x y z)).frozen? ⟨eb, i, none⟩ = false := fun i => ((below_box w (insO 25 x y z)).frozen (p := ⟨eb, i, none⟩) l3).trans (hg i)
  go_wp2
  go_ret
  have hq := below_box (w.setCell ⟨eb, 3, none⟩ (.int .i64 x)) (insO 25 x y z)
  rw [size_setCell] at hq
  exact ⟨rfl, hq⟩
theorem do_0 (b eb : Nat) (t : Addr) (x y z : Int) (w : World) :
    Calls Tryz.prog 74 #[.pointer (some ⟨b, 0, none⟩), .pointer (some t), insV 0 x y z, .pointer (some ⟨eb, 0, none⟩)] w fun e w' => e = .returned (.bool true) ∧ Below w.heap.size w w' := by
  go_enter Tryz.func74, Tryz.ntmps74
  go_wp2
  go_ret
  exact ⟨rfl, below_box _ _⟩
theorem do_26 (b eb k A B : Nat) (z : Int) (hA : A < 4) (hB : B < 4) (v o3 o5 : Int) (r : Bool) (l : List (Nat × Value)) (w : World) (h2 : (putsB b l w).cell? ⟨b, 1 + k * 6 + 2 + A, none⟩ = some (.int .i64 v)) (hf : ∀ i, w.frozen? ⟨b, i, none⟩ = false)
    (h3 : w.cell? ⟨eb, 3, none⟩ = some (.int .i64 o3)) (h5 : w.cell? ⟨eb, 5, none⟩ = some (.int .i64 o5)) (hg : ∀ i, w.frozen? ⟨eb, i, none⟩ = false) (hne : b ≠ eb) (lb : b < w.heap.size)
    (ht : ∀ u : World, u.heap[b]? = w.heap[b]? → Calls Tryz.prog 101 #[.pointer (some ⟨b, 85 + B, none⟩)] u fun e u' => e = .returned (.bool r) ∧ Below u.heap.size (putsB b l u) u') :
    Calls Tryz.prog 74 #[.pointer (some ⟨b, 0, none⟩), .pointer (some ⟨b, 1 + k * 6, none⟩), insV 26 A B z, .pointer (some ⟨eb, 0, none⟩)] w fun e w' => e = .returned (.bool true) ∧ Below w.heap.size ((((putsB b l w).setCell ⟨eb, 3, none⟩ (.int .i64 B)).setCell ⟨eb, 5, none⟩ (.int .i64 (bitN r))).setCell ⟨b, 1 + k * 6 + 2 + A, none⟩ (.int .i64 (bitN r))) w' := by
  have hA4 : (A : Int) < 4 := by omega
  have hB4 : (B : Int) < 4 := by omega
  have l3 := cell_lt h3
  have HT := Lib.hid ht
  have H2 := Lib.hid h2
  have HF := Lib.hid hf
  go_enter Tryz.func74, Tryz.ntmps74
  clear ht h2 hf
  go_wp2_with fail
  generalize hV : World.alloc w _ = V
  have hB1 : Below w.heap.size w V := by rw [← hV]; exact below_box _ _
  have hN : V.heap[w.heap.size]? = some (insO 26 A B z) := by rw [← hV]; exact heap_alloc_new _ _
  obtain ⟨n0, n1, n2, n3⟩ := cells4 hN
  have c3 : V.cell? ⟨eb, 3, none⟩ = some (.int .i64 o3) := (hB1.cell (p := ⟨eb, 3, none⟩) l3).trans h3
  have c5 : V.cell? ⟨eb, 5, none⟩ = some (.int .i64 o5) := (hB1.cell (p := ⟨eb, 5, none⟩) l3).trans h5
  have cg : ∀ i, V.frozen? ⟨eb, i, none⟩ = false := fun i => (hB1.frozen (p := ⟨eb, i, none⟩) l3).trans (hg i)
  have Hb : Hid (V.heap[b]? = w.heap[b]?) := Lib.hid (hB1.block b lb)
  have H1 := Lib.hid hB1
  clear hV hB1 hN h3 h5 hg
  have lV : Hid (eb < V.heap.size ∧ b < V.heap.size ∧ w.heap.size < V.heap.size) := Lib.hid ⟨cell_lt c3, by have := H1.out.size; omega, cell_lt n1⟩
  have Hw : w.heap.size ≠ b := by omega
  have He : w.heap.size ≠ eb := by omega
  go_wp2_with fail
  go_region_held3 (fun u => u.cell? ⟨w.heap.size, 2, none⟩ = some (.int .i64 B)) (first | exact n2 | exact (hi 2).trans n2 | exact (cell_off He).trans ((hi 2).trans n2) | exact (cell_off He).trans ((cell_off He).trans ((hi 2).trans n2)) | assumption) (first
    | (go_at_call 101; refine (HT.out _ (by exact Hb.out)).mono ?_; rintro e u ⟨rfl, hU⟩; have g3 : u.cell? ⟨eb, 3, none⟩ = some (.int .i64 o3) := (hU.cell (p := ⟨eb, 3, none⟩) lV.out.1).trans ((puts_off hne.symm l _).trans c3); have g5 : u.cell? ⟨eb, 5, none⟩ = some (.int .i64 o5) := (hU.cell (p := ⟨eb, 5, none⟩) lV.out.1).trans ((puts_off hne.symm l _).trans c5); have gg : ∀ i, u.frozen? ⟨eb, i, none⟩ = false := fun i => (hU.frozen (p := ⟨eb, i, none⟩) lV.out.1).trans ((puts_frozen b _ l _).trans (cg i)); have hi : ∀ j, u.cell? ⟨w.heap.size, j, none⟩ = V.cell? ⟨w.heap.size, j, none⟩ := fun j => (hU.cell (p := ⟨w.heap.size, j, none⟩) lV.out.2.2).trans (puts_off Hw l _))
    | (go_at_call 100; refine (number_any r _).mono ?_; rintro e u' ⟨rfl, rfl⟩))
  have hu : ∀ j, u.cell? ⟨b, j, none⟩ = (putsB b l w).cell? ⟨b, j, none⟩ := fun j => (hU.cell (p := ⟨b, j, none⟩) lV.out.2.1).trans (World.cell?_of_block (puts_block l (by exact Hb.out)))
  have hfu : ∀ j, u.frozen? ⟨b, j, none⟩ = false := fun j => (hU.frozen (p := ⟨b, j, none⟩) lV.out.2.1).trans ((puts_frozen b _ l _).trans ((World.frozen?_of_block (by exact Hb.out)).trans (HF.out j)))
  generalize hT : World.setCell _ _ _ = T
  have e0 : ∀ d j, d ≠ eb → T.cell? ⟨d, j, none⟩ = u.cell? ⟨d, j, none⟩ := fun d j hd => by rw [← hT]; exact (cell_off hd).trans (cell_off hd)
  have e1 : T.cell? ⟨w.heap.size, 1, none⟩ = some (.int .i64 A) := (e0 _ _ He).trans ((hi 1).trans n1)
  have e2 : T.cell? ⟨b, 1 + k * 6 + 2 + A, none⟩ = some (.int .i64 v) := (e0 _ _ hne).trans ((hu _).trans H2.out)
  have e3 : T.cell? ⟨eb, 5, none⟩ = some (.int .i64 (bitN r)) := by rw [← hT]; exact cell_is ((cell_ne (by omega)).trans g5)
  have ef : ∀ j, T.frozen? ⟨b, j, none⟩ = false := fun j => by rw [← hT]; simpa using hfu j
  have HTT := Lib.hid hT
  have HU := Lib.hid hU
  clear hT hU hu hi hfu e0 n0 n1 n2 n3 c3 c5 cg g3 g5 gg
  go_wp2_with fail
  go_region
  go_wp2
  go_ret
  refine ⟨rfl, ?_⟩
  rw [← HTT.out]
  exact (below_both (below_both (below_both ((puts_both l H1.out.drew).trans (HU.out.mono (by have := lV.out.2.2; exact Nat.le_of_lt this))) _ _) _ _) _ _).drew
theorem st_slice {u : World} {base : Nat} {e : TypeId} {z : Nat} {v : Value} {n : Nat} {xs : List Value} (h : u.ownsRow base e z v n xs) : ∃ ao cap, v = .slice ao n cap := by
  rcases h.2 with ⟨rfl, rfl⟩ | ⟨g, cap, cur, rfl, _⟩
  · exact ⟨none, 0, rfl⟩
  · exact ⟨_, cap, rfl⟩
theorem StIn.told89 {u : World} {b lo hi : Nat} {pv : Value} {m : Nat → Int} {code : List (List InsD)} {pr : List Int} (h : StIn u b lo hi pv m code pr) : u.cell? ⟨b, 89, none⟩ = some pv := by
  obtain ⟨cs, a, cap, h1, h2, h3, h4, h5, h6⟩ := h.box
  rw [cell_of_row _ _ _ _ _ _ h1]; exact h4
theorem StIn.frozen {u : World} {b lo hi : Nat} {pv : Value} {m : Nat → Int} {code : List (List InsD)} {pr : List Int} (h : StIn u b lo hi pv m code pr) (i : Nat) : u.frozen? ⟨b, i, none⟩ = false := by
  obtain ⟨cs, a, cap, h1, h2, h3, h4, h5, h6⟩ := h.box
  exact frozen_of_row _ _ _ _ _ h1
/-- A store into another block. -/
theorem StIn.aside {u : World} {b lo hi : Nat} {pv : Value} {m : Nat → Int} {code : List (List InsD)} {pr : List Int} (h : StIn u b lo hi pv m code pr) {e i : Nat} {v : Value} (h1 : b ≠ e) (h2 : pv.ownBlock ≠ some e) (h3 : e < lo ∨ hi ≤ e) : StIn (u.setCell ⟨e, i, none⟩ v) b lo hi pv m code pr := by
  obtain ⟨cs, a, cap, g1, g2, g3, g4, g5, g6⟩ := h.box
  have hk : ∀ k, k ≠ e → (u.setCell ⟨e, i, none⟩ v).heap[k]? = u.heap[k]? := fun k hk => Below.heap_setCell _ _ _ _ hk
  refine ⟨⟨cs, a, cap, (hk b h1).trans g1, g2, g3, g4, g5, g6.keep fun k k1 k2 => hk k ?_⟩, ?_, h.off, h.two, h.len, h.lens, by rw [size_setCell]; exact h.top⟩
  · rcases h3 with h' | h' <;> omega
  · refine ⟨h.own.1, ?_⟩
    rcases h.own.2 with q | ⟨g, cap', cur, rfl, hb, hh, hr⟩
    · exact .inl q
    · have : g ≠ e := fun x => h2 (by simp [Value.ownBlock, x])
      exact .inr ⟨g, cap', cur, rfl, hb, (hk g this).trans hh, hr⟩
/-- What is told is told. -/
theorem StIn.tell {u u' : World} {b lo hi : Nat} {pv pv' : Value} {m : Nat → Int} {code : List (List InsD)} {pr : List Int} {v : Int} (h : StIn u b lo hi pv m code pr) (ho : u'.ownsRow hi 3 1 pv' (pr.length + 1) (pr.map (.int .i64 ·) ++ [.int .i64 v])) (hg : u.grownBy u' pv.ownBlock) (ha : pv'.ownBlock = pv.ownBlock ∨ pv'.ownBlock = some u.heap.size) :
    StIn (u'.setCell ⟨b, 89, none⟩ pv') b lo hi pv' m code (pr ++ [v]) := by
  have hl := h.lt
  obtain ⟨cs, a, cap, g1, g2, g3, g4, g5, g6⟩ := h.box
  have hb : u'.heap[b]? = u.heap[b]? := hg.block b hl fun e => h.two e.symm
  have h2 : pv'.ownBlock ≠ some b := by
    rcases ha with e | e
    · rw [e]; exact h.two
    · rw [e]; intro e'; simp at e'; omega
  have hk : ∀ k, k ≠ b → (u'.setCell ⟨b, 89, none⟩ pv').heap[k]? = u'.heap[k]? := fun k hk => Below.heap_setCell _ _ _ _ hk
  refine ⟨⟨cs.setIfInBounds 89 pv', a, cap, stSet_block u' b 89 pv' (hb.trans g1), by simpa using g2, ?_, ?_, fun j hj j0 j9 => ?_, g6.keep2 fun k k1 k2 k3 => (hk k ?_).trans (hg.block k k3 ?_)⟩, ?_, h.off, h2, h.len, h.lens, by rw [size_setCell]; exact Nat.le_trans h.top hg.size⟩
  · rw [Array.getElem?_setIfInBounds_ne (by omega)]; exact g3
  · rw [Array.getElem?_setIfInBounds_self_of_lt (by omega)]
  · rw [Array.getElem?_setIfInBounds_ne (by omega)]; exact g5 j hj j0 j9
  · rcases h.off with h' | h' <;> omega
  · intro e
    have := (own_lt h.own k e.symm).2
    omega
  · have ho' : u'.ownsRow hi 3 1 pv' (pr ++ [v]).length ((pr ++ [v]).map (.int .i64 ·)) := by simpa using ho
    refine ⟨ho'.1, ?_⟩
    rcases ho'.2 with q | ⟨g, cap', cur, rfl, hb', hh, hr⟩
    · exact .inl q
    · have : g ≠ b := fun x => h2 (by simp [Value.ownBlock, x])
      exact .inr ⟨g, cap', cur, rfl, hb', (hk g this).trans hh, hr⟩
theorem info_intS : (Tryz.prog.info? 3).map (fun i => (i.zero, i.size, i.bytes)) = some (some (.int .i64 0), 1, 8) := by kernel_rfl
theorem st_one_new (w : World) (v : Value) (t : TypeId) : ∀ j u, [v][j]? = some u → ((w.alloc (.cells #[v] t)).drew).cell? ((⟨w.heap.size, 0, none⟩ : Addr).add j) = some u := fun j u hu => by
  cases j with
  | zero =>
    obtain rfl : v = u := by simpa using hu
    exact cell_of_row _ _ 0 _ _ _ (heap_alloc_new w _)
  | succ j => simp at hu
theorem do_9 {b lo hi : Nat} {pv : Value} {m : Nat → Int} {code : List (List InsD)} {pr : List Int} (eb k A : Nat) (y z : Int) (hA : A < 4) (hk : k < 6) (o4 : Int) (w : World) (S : StIn w b lo hi pv m code pr) (hpl : pr.length ≤ 1000000)
    (h4 : w.cell? ⟨eb, 4, none⟩ = some (.int .i64 o4)) (hg : ∀ i, w.frozen? ⟨eb, i, none⟩ = false) (hne : b ≠ eb) (hpe : pv.ownBlock ≠ some eb) (heo : eb < lo ∨ hi ≤ eb) :
    Calls Tryz.prog 74 #[.pointer (some ⟨b, 0, none⟩), .pointer (some ⟨b, 1 + k * 6, none⟩), insV 9 A y z, .pointer (some ⟨eb, 0, none⟩)] w fun e w' => e = .returned (.bool true) ∧ ∃ pv', StIn w' b lo hi pv' m code (pr ++ [m (1 + k * 6 + 2 + A)]) ∧ w'.heap[eb]? = (w.setCell ⟨eb, 4, none⟩ (.int .i64 (m (1 + k * 6 + 2 + A)))).heap[eb]? ∧ Touch (fun j => j = b ∨ j = eb ∨ pv.ownBlock = some j) w w' ∧ (pv'.ownBlock = pv.ownBlock ∨ ∃ g, pv'.ownBlock = some g ∧ w.heap.size ≤ g) := by
  have hA4 : (A : Int) < 4 := by omega
  have l1 := S.lt
  have l4 := cell_lt h4
  have h1 := S.reg k A hk hA
  generalize m (1 + k * 6 + 2 + A) = v at *
  go_enter Tryz.func74, Tryz.ntmps74
  go_wp2_with fail
  generalize hV : World.alloc w _ = V
  have hB : Below w.heap.size w V := by rw [← hV]; exact below_box _ _
  have hN : V.heap[w.heap.size]? = some (insO 9 A y z) := by rw [← hV]; exact heap_alloc_new _ _
  obtain ⟨n0, n1, n2, n3⟩ := cells4 hN
  have d1 : V.cell? ⟨b, 1 + k * 6 + 2 + A, none⟩ = some (.int .i64 v) := (hB.cell (p := ⟨b, 1 + k * 6 + 2 + A, none⟩) l1).trans h1
  have d4 : V.cell? ⟨eb, 4, none⟩ = some (.int .i64 o4) := (hB.cell (p := ⟨eb, 4, none⟩) l4).trans h4
  have dg : ∀ i, V.frozen? ⟨eb, i, none⟩ = false := fun i => (hB.frozen (p := ⟨eb, i, none⟩) l4).trans (hg i)
  have HB := Lib.hid hB
  have HSV := Lib.hid ((S.later hB).aside (i := 4) (v := .int .i64 v) hne hpe heo)
  clear hV hB hN h1 h4 hg
  go_wp2_with fail
  go_region
  generalize hU : World.drew _ = U
  have SU : StIn U b lo hi pv m code pr := by rw [← hU]; exact HSV.out.later ((Below.refl _ _).drew)
  have e4 : U.cell? ⟨eb, 4, none⟩ = some (.int .i64 v) := by rw [← hU]; exact cell_is d4
  have hUB : Below w.heap.size (w.setCell ⟨eb, 4, none⟩ (.int .i64 v)) U := by rw [← hU]; exact (below_both HB.out _ _).drew
  obtain ⟨ao, cp, rfl⟩ := st_slice SU.own
  have e9 := SU.told89
  have HU := Lib.hid hUB
  have HSU := Lib.hid SU
  clear hU n0 n1 n2 n3 d1 d4 dg HSV hUB S
  obtain ⟨t0, ti, tz0, tz1, tz2⟩ := info_parts info_intS
  go_wp2_with fail
  have e9' : ∀ o, (U.alloc o).cell? ⟨b, 89, none⟩ = some (.slice ao pr.length cp) := fun o => ((below_box U o).cell (p := ⟨b, 89, none⟩) HSU.out.lt).trans e9
  have e4' : ∀ o, (U.alloc o).cell? ⟨eb, 4, none⟩ = some (.int .i64 v) := fun o => ((below_box U o).cell (p := ⟨eb, 4, none⟩) (cell_lt e4)).trans e4
  go_region_law ((rw [if_pos (by rfl)]); refine wp_append_own_at _ (.tmp 54) (.tmp 59) 23 rfl hi 3 t0 (.int .i64 0) 1 8 Tryz.underlying23 ti tz0 tz1 tz2 rfl (by decide) (.slice ao pr.length cp) pr.length (pr.map (Value.int .i64 ·)) rfl (own_later HSU.out.own (below_box U _).drew) ⟨U.heap.size, 0, none⟩ 1 1 [.int .i64 v] rfl rfl (st_one_new U _ _) (by simp [Value.oneCell']) (by unfold maxLen; omega) (by omega) (by have := HSU.out.top; simp; omega) ?_; intro v' w4 hown' hgrow _ hat; obtain ⟨ao', cp', rfl⟩ := st_slice hown'; have hq := HSU.out.later ((below_box U (.cells #[.int .i64 v] 3)).drew); have b9 : w4.heap[b]? = _ := hgrow.block b hq.lt (fun e => hq.two e.symm); have c9 : w4.cell? ⟨b, 89, none⟩ = some (.slice ao pr.length cp) := (World.cell?_of_block b9).trans hq.told89; have f9 : w4.frozen? ⟨b, 89, none⟩ = false := (World.frozen?_of_block b9).trans (hq.frozen 89))
  all_goals
    have hfin := hq.tell hown' hgrow hat
    have hT : Touch (fun j => j = b ∨ j = eb ∨ (Value.slice ao pr.length cp).ownBlock = some j) w (w4.setCell ⟨b, 89, none⟩ (.slice ao' (pr.length + 1) cp')) := by
      refine Touch.set ?_ (.inl rfl)
      refine Touch.trans (Y := fun j => (Value.slice ao pr.length cp).ownBlock = some j) (Touch.trans (Y := fun _ => False) ((Touch.of_below (Below.refl _ _)).set (b := eb) (i := 4) (v := .int .i64 v) (.inr (.inl rfl))) (Touch.of_below (by rw [size_setCell]; exact HU.out.trans ((below_box U _).drew.mono (by have := HU.out.size; rw [size_setCell] at this; exact this)))) (fun k hk hf => hf.elim)) (Touch.grown hgrow fun k e => e) (fun k hk e => .inr (.inr e))
    go_wp2
    go_ret
    refine ⟨rfl, _, hfin, ?_, hT, ?_⟩
    · rw [Below.heap_setCell _ _ _ _ hne.symm]
      refine (hgrow.block eb ?_ fun e => hpe e.symm).trans ?_
      · have := cell_lt e4; simp; omega
      · exact ((below_box U _).drew.block eb (cell_lt e4)).trans (HU.out.block eb l4)
    · rcases hat with e | e
      · exact .inl e
      · refine .inr ⟨_, e, ?_⟩
        have := HU.out.size
        rw [size_setCell] at this
        simp; omega
/-- A cell of the event is put, or a cell of the state. -/
inductive Ed where
  | e (i : Nat) (v : Int)
  | m (i : Nat) (v : Int)
def Ed.ok : Ed → Prop
  | .e i _ => 3 ≤ i ∧ i < 6
  | .m i _ => i ≠ 0 ∧ i ≠ 89
def ed (b eb : Nat) : List Ed → World → World
  | [], w => w
  | .e i v :: l, w => ed b eb l (w.setCell ⟨eb, i, none⟩ (.int .i64 v))
  | .m i v :: l, w => ed b eb l (w.setCell ⟨b, i, none⟩ (valAt i v))
def edM : List Ed → (Nat → Int) → Nat → Int
  | [], m => m
  | .e i v :: l, m => edM l m
  | .m i v :: l, m => edM l (upd m i v)
def edE : List Ed → (Nat → Int) → Nat → Int
  | [], m => m
  | .e i v :: l, m => edE l (upd m i v)
  | .m i v :: l, m => edE l m
/-- The event, as it lies. -/
abbrev evO (t0 t1 t2 : Value) (ev : Nat → Int) : Obj := .cells #[t0, t1, t2, .int .i64 (ev 3), .int .i64 (ev 4), .int .i64 (ev 5)] 31
theorem ed_size (b eb : Nat) : ∀ (l : List Ed) (w : World), (ed b eb l w).heap.size = w.heap.size
  | [], _ => rfl
  | .e i v :: l, w => by rw [ed, ed_size b eb l, size_setCell]
  | .m i v :: l, w => by rw [ed, ed_size b eb l, size_setCell]
theorem ed_st {b eb lo hi : Nat} {pv : Value} {code : List (List InsD)} {pr : List Int} (h1 : b ≠ eb) (h2 : pv.ownBlock ≠ some eb) (h3 : eb < lo ∨ hi ≤ eb) : ∀ (l : List Ed) {w : World} {m : Nat → Int}, (∀ x ∈ l, x.ok) → StIn w b lo hi pv m code pr → StIn (ed b eb l w) b lo hi pv (edM l m) code pr
  | [], _, _, _, h => h
  | .e i v :: l, _, _, hl, h => ed_st h1 h2 h3 l (fun x hx => hl x (by simp [hx])) (h.aside h1 h2 h3)
  | .m i v :: l, _, _, hl, h => ed_st h1 h2 h3 l (fun x hx => hl x (by simp [hx])) (h.set i v _ rfl (hl (.m i v) (by simp)).1 (hl (.m i v) (by simp)).2)
theorem ed_ev {b eb : Nat} {t0 t1 t2 : Value} (h1 : b ≠ eb) : ∀ (l : List Ed) {w : World} {ev : Nat → Int}, (∀ x ∈ l, x.ok) → w.heap[eb]? = some (evO t0 t1 t2 ev) → (ed b eb l w).heap[eb]? = some (evO t0 t1 t2 (edE l ev))
  | [], _, _, _, h => h
  | .e i v :: l, w, ev, hl, h => by
    refine ed_ev h1 l (fun x hx => hl x (by simp [hx])) ?_
    have hi : 3 ≤ i ∧ i < 6 := hl (.e i v) (by simp)
    rw [stSet_block w eb i _ h]
    obtain rfl | rfl | rfl : i = 3 ∨ i = 4 ∨ i = 5 := by omega
    · rfl
    · rfl
    · rfl
  | .m i v :: l, w, ev, hl, h => ed_ev h1 l (fun x hx => hl x (by simp [hx])) ((Below.heap_setCell _ _ _ _ h1.symm).trans h)
theorem ed_touch {X : Nat → Prop} {b eb : Nat} (hb : X b) (he : X eb) : ∀ (l : List Ed) {w u : World}, Touch X w u → Touch X w (ed b eb l u)
  | [], _, _, h => h
  | .e i v :: l, _, _, h => ed_touch hb he l (h.set he)
  | .m i v :: l, _, _, h => ed_touch hb he l (h.set hb)
/-- What an instruction leaves. -/
def DoPost (w : World) (b eb lo hi : Nat) (pv : Value) (m : Nat → Int) (code : List (List InsD)) (pr : List Int) (t0 t1 t2 : Value) (ev : Nat → Int) (L : List Ed) (told : List Int) (r : Bool) (e : Ending) (w' : World) : Prop :=
  e = .returned (.bool r) ∧ ∃ pv', StIn w' b lo hi pv' (edM L m) code (pr ++ told) ∧ w'.heap[eb]? = some (evO t0 t1 t2 (edE L ev)) ∧ Touch (fun j => j = b ∨ j = eb ∨ pv.ownBlock = some j) w w' ∧ (pv'.ownBlock = pv.ownBlock ∨ ∃ g, pv'.ownBlock = some g ∧ w.heap.size ≤ g)
theorem do_fin {w : World} {b eb lo hi : Nat} {pv : Value} {m : Nat → Int} {code : List (List InsD)} {pr : List Int} {t0 t1 t2 : Value} {ev : Nat → Int} {r : Bool} (S : StIn w b lo hi pv m code pr) (he : w.heap[eb]? = some (evO t0 t1 t2 ev)) (h1 : b ≠ eb) (h2 : pv.ownBlock ≠ some eb) (h3 : eb < lo ∨ hi ≤ eb)
    (L : List Ed) (hL : ∀ x ∈ L, x.ok) {W : World} (hW : ed b eb L w = W) {e : Ending} {w' : World} (h : e = .returned (.bool r) ∧ Below w.heap.size W w') : DoPost w b eb lo hi pv m code pr t0 t1 t2 ev L [] r e w' := by
  subst hW
  obtain ⟨rfl, hB⟩ := h
  have hs := ed_size b eb L w
  have hB' : Below (ed b eb L w).heap.size (ed b eb L w) w' := by rw [hs]; exact hB
  refine ⟨rfl, pv, ?_, ?_, ?_, .inl rfl⟩
  · simpa using (ed_st h1 h2 h3 L hL S).later hB'
  · exact (hB.block eb (Array.getElem?_eq_some_iff.1 he).1).trans (ed_ev h1 L hL he)
  · exact (ed_touch (.inl rfl) (.inr (.inl rfl)) L (Touch.of_below (Below.refl _ _))).trans (Y := fun _ => False) (Touch.of_below hB') (fun _ _ h => h.elim)
/-- Where a register lies. -/
abbrev rg (k r : Nat) : Nat := 1 + k * 6 + 2 + r
/-- What comes out of a channel at o: the number, how, what is put. -/
def takeE (m : Nat → Int) (o : Nat) : Int × Int × List Ed := match (m (o + 3)).toNat with
  | 0 => (0, if m (o + 5) == 1 then 2 else 0, [])
  | 1 => (m o, 1, [.m (o + 3) 0])
  | 2 => (m o, 1, [.m o (m (o + 1)), .m (o + 3) 1])
  | _ => (m o, 1, [.m o (m (o + 1)), .m (o + 1) (m (o + 2)), .m (o + 3) 2])
/-- What an instruction of thread k puts; whether it may be. -/
def doE (m : Nat → Int) (k : Nat) (x : InsD) : List Ed × Bool := match x.op with
  | 1 => ([.m (rg k x.a.toNat) x.b], true)
  | 2 => ([.m (rg k x.a.toNat) (m (rg k x.b.toNat))], true)
  | 3 => ([.m (rg k x.a.toNat) (wrap64 (m (rg k x.b.toNat) + m (rg k x.c.toNat)))], true)
  | 4 => ([.m (rg k x.a.toNat) (wrap64 (m (rg k x.b.toNat) - m (rg k x.c.toNat)))], true)
  | 5 => ([.m (rg k x.a.toNat) (wrap64 (m (rg k x.b.toNat) * m (rg k x.c.toNat)))], true)
  | 6 => ([.m (rg k x.a.toNat) (bitN (decide (m (rg k x.b.toNat) < m (rg k x.c.toNat))))], true)
  | 7 => ([.e 3 x.b, .e 4 (m (37 + x.b.toNat)), .m (rg k x.a.toNat) (m (37 + x.b.toNat))], true)
  | 8 => ([.e 3 x.a, .e 4 (m (rg k x.b.toNat)), .m (37 + x.a.toNat) (m (rg k x.b.toNat))], true)
  | 9 => ([.e 4 (m (rg k x.a.toNat))], true)
  | 10 => ([.m (1 + k * 6 + 1) x.a], true)
  | 11 => (if m (rg k x.a.toNat) == 0 then [.m (1 + k * 6 + 1) x.b] else [], true)
  | 12 => ([.e 3 x.a, .m (1 + x.a.toNat * 6) 1], !(m (1 + x.a.toNat * 6) == 1))
  | 13 => ([.e 3 x.a, .m (49 + x.a.toNat * 2) 1], true)
  | 14 => if m (49 + x.a.toNat * 2) == 1 then ([.e 3 x.a, .m (49 + x.a.toNat * 2) 0], true) else ([.e 3 x.a], false)
  | 15 => ([.e 3 x.a, .m (49 + x.a.toNat * 2 + 1) (wrap64 (m (49 + x.a.toNat * 2 + 1) + 1))], true)
  | 16 => if m (49 + x.a.toNat * 2 + 1) == 0 then ([.e 3 x.a], false) else ([.e 3 x.a, .m (49 + x.a.toNat * 2 + 1) (wrap64 (m (49 + x.a.toNat * 2 + 1) - 1))], true)
  | 17 => ([.e 3 x.b, .e 4 (m (45 + x.b.toNat)), .m (rg k x.a.toNat) (m (45 + x.b.toNat))], true)
  | 18 => ([.e 3 x.a, .e 4 (m (rg k x.b.toNat)), .m (45 + x.a.toNat) (m (rg k x.b.toNat))], true)
  | 19 => ([.e 3 x.b, .e 4 (m (45 + x.b.toNat)), .m (45 + x.b.toNat) (wrap64 (m (45 + x.b.toNat) + m (rg k x.c.toNat))), .m (rg k x.a.toNat) (m (45 + x.b.toNat))], true)
  | 20 => if m (57 + x.a.toNat * 6 + 5) == 1 then ([.e 3 x.a, .e 4 (m (rg k x.b.toNat))], false) else ([.e 3 x.a, .e 4 (m (rg k x.b.toNat)), .m (57 + x.a.toNat * 6 + (m (57 + x.a.toNat * 6 + 3)).toNat) (m (rg k x.b.toNat)), .m (57 + x.a.toNat * 6 + 3) (m (57 + x.a.toNat * 6 + 3) + 1)], true)
  | 21 => ([.e 3 x.b] ++ (takeE m (57 + x.b.toNat * 6)).2.2 ++ [.e 4 (takeE m (57 + x.b.toNat * 6)).1, .e 5 (takeE m (57 + x.b.toNat * 6)).2.1, .m (rg k x.a.toNat) (takeE m (57 + x.b.toNat * 6)).1], true)
  | 22 => ([.e 3 x.b] ++ (takeE m (57 + x.b.toNat * 6)).2.2 ++ [.e 4 (takeE m (57 + x.b.toNat * 6)).1, .e 5 (takeE m (57 + x.b.toNat * 6)).2.1, .m (rg k x.a.toNat) (takeE m (57 + x.b.toNat * 6)).1, .m (rg k x.c.toNat) (bitN ((takeE m (57 + x.b.toNat * 6)).2.1 == 1))], true)
  | 23 => ([.e 3 x.a, .m (57 + x.a.toNat * 6 + 5) 1], !(m (57 + x.a.toNat * 6 + 5) == 1))
  | 24 => if wrap64 (m (81 + x.a.toNat) + x.b) < 0 then ([.e 3 x.a, .e 4 x.b], false) else ([.e 3 x.a, .e 4 x.b, .m (81 + x.a.toNat) (wrap64 (m (81 + x.a.toNat) + x.b))], true)
  | 25 => ([.e 3 x.a], true)
  | 26 => if m (85 + x.b.toNat) == 0 then ([.m (85 + x.b.toNat) 1, .e 3 x.b, .e 5 1, .m (rg k x.a.toNat) 1], true) else ([.e 3 x.b, .e 5 0, .m (rg k x.a.toNat) 0], true)
  | 27 => if m (85 + x.a.toNat) == 1 then ([.e 3 x.a, .m (85 + x.a.toNat) 2], true) else ([.e 3 x.a], false)
  | _ => ([], true)
/-- What an instruction tells. -/
def doT (m : Nat → Int) (k : Nat) (x : InsD) : List Int := if x.op = 9 then [m (rg k x.a.toNat)] else []
end Go.Proofs.YtglafbajbiengaaGreat
