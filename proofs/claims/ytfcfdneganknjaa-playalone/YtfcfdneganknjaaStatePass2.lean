/- Send, Close and Bump. -/
import Derived.Test.YtfcfdneganknjaaStatePass
namespace Go.Proofs.Ytfcfdneganknjaa
set_option linter.unusedVariables false
set_option linter.unusedSimpArgs false
set_option maxRecDepth 100000
open Go.ChangeShapes Go.WideShapes Go.ChangeAt Go.RowKit

set_option maxHeartbeats 1000000 in
theorem pass_send (b eb k A B : Nat) (z : Int) (hA : A < 4) (hB : B < 4) (n o3 o4 : Int) (r : Bool) (l : List (Nat × Value)) (w : World) (h1 : w.cell? ⟨b, 1 + k * 6 + 2 + B, none⟩ = some (.int .i64 n))
    (h3 : w.cell? ⟨eb, 3, none⟩ = some (.int .i64 o3)) (h4 : w.cell? ⟨eb, 4, none⟩ = some (.int .i64 o4)) (hg : ∀ i, w.frozen? ⟨eb, i, none⟩ = false) (hne : b ≠ eb) (lb : b < w.heap.size)
    (ht : ∀ u : World, u.heap[b]? = w.heap[b]? → Calls Try.prog 89 #[.pointer (some ⟨b, 57 + A * 6, none⟩), .int .i64 n] u fun e u' => e = .returned (.bool r) ∧ Below u.heap.size (putsB b l u) u') :
    Calls Try.prog 75 #[.pointer (some ⟨b, 0, none⟩), .pointer (some ⟨b, 1 + k * 6, none⟩), insV 20 A B z, .pointer (some ⟨eb, 0, none⟩)] w fun e w' => e = .returned (.bool r) ∧ Below w.heap.size (putsB b l ((w.setCell ⟨eb, 3, none⟩ (.int .i64 A)).setCell ⟨eb, 4, none⟩ (.int .i64 n))) w' := by
  have hA4 : (A : Int) < 4 := by omega
  have hB4 : (B : Int) < 4 := by omega
  have l1 := cell_lt h1
  have l3 := cell_lt h3
  have HT := Lib.hid ht
  go_enter Try.func75, Try.ntmps75
  clear ht
  go_wp2_with fail
  generalize hV : World.alloc w _ = V
  have hB : Below w.heap.size w V := by rw [← hV]; exact below_box _ _
  have hN : V.heap[w.heap.size]? = some (insO 20 A B z) := by rw [← hV]; exact heap_alloc_new _ _
  obtain ⟨n0, n1, n2, n3⟩ := cells4 hN
  have d1 : V.cell? ⟨b, 1 + k * 6 + 2 + B, none⟩ = some (.int .i64 n) := (hB.cell (p := ⟨b, 1 + k * 6 + 2 + B, none⟩) l1).trans h1
  have d3 : V.cell? ⟨eb, 3, none⟩ = some (.int .i64 o3) := (hB.cell (p := ⟨eb, 3, none⟩) l3).trans h3
  have d4 : V.cell? ⟨eb, 4, none⟩ = some (.int .i64 o4) := (hB.cell (p := ⟨eb, 4, none⟩) l3).trans h4
  have dg : ∀ i, V.frozen? ⟨eb, i, none⟩ = false := fun i => (hB.frozen (p := ⟨eb, i, none⟩) l3).trans (hg i)
  have Hb : Hid (V.heap[b]? = w.heap[b]?) := Lib.hid (hB.block b lb)
  have HB := Lib.hid hB
  have HL := Lib.hid (show w.heap.size < V.heap.size from cell_lt n1)
  clear hV hB hN h1 h3 h4 hg
  go_wp2_with fail
  go_region
  have Hl : w.heap.size ≠ eb := by omega
  generalize hU : World.drew _ = U
  have e1 : U.cell? ⟨w.heap.size, 1, none⟩ = some (.int .i64 A) := by rw [← hU]; exact (cell_two Hl).trans n1
  have e3 : U.cell? ⟨eb, 4, none⟩ = some (.int .i64 n) := by rw [← hU]; exact cell_last d4 (by omega)
  have HbU : Hid (U.heap[b]? = w.heap[b]?) := Lib.hid (by rw [← hU]; exact (Below.heap_setCell _ _ _ _ hne).trans ((Below.heap_setCell _ _ _ _ hne).trans Hb.out))
  have HU := Lib.hid hU
  have HS : Hid (w.heap.size ≤ U.heap.size) := Lib.hid (by rw [← hU]; have := HL.out; simp; omega)
  clear hU n0 n1 n2 n3 d1 d3 d4 dg
  go_wp2_with fail
  go_still_tail 10, (by kernel_rfl)
  go_wp2_with (first
    | (go_at_call 89; refine (HT.out _ (by exact HbU.out)).mono ?_; rintro e u ⟨rfl, hu⟩))
  go_ret
  refine ⟨rfl, ?_⟩
  refine Below.trans (puts_both l ?_) (hu.mono HS.out)
  rw [← HU.out]
  exact ((below_both (below_both HB.out _ _) _ _).drew).drew

set_option maxHeartbeats 1000000 in
theorem pass_close (b eb A : Nat) (t : Addr) (y z : Int) (hA : A < 4) (o3 : Int) (r : Bool) (l : List (Nat × Value)) (w : World)
    (h3 : w.cell? ⟨eb, 3, none⟩ = some (.int .i64 o3)) (hg : ∀ i, w.frozen? ⟨eb, i, none⟩ = false) (hne : b ≠ eb) (lb : b < w.heap.size)
    (ht : ∀ u : World, u.heap[b]? = w.heap[b]? → Calls Try.prog 91 #[.pointer (some ⟨b, 57 + A * 6, none⟩)] u fun e u' => e = .returned (.bool r) ∧ Below u.heap.size (putsB b l u) u') :
    Calls Try.prog 75 #[.pointer (some ⟨b, 0, none⟩), .pointer (some t), insV 23 A y z, .pointer (some ⟨eb, 0, none⟩)] w fun e w' => e = .returned (.bool r) ∧ Below w.heap.size (putsB b l (w.setCell ⟨eb, 3, none⟩ (.int .i64 A))) w' := by
  have hA4 : (A : Int) < 4 := by omega
  have l3 := cell_lt h3
  have HT := Lib.hid ht
  go_enter Try.func75, Try.ntmps75
  clear ht
  have d3 : (w.alloc (insO 23 A y z)).cell? ⟨eb, 3, none⟩ = some (.int .i64 o3) := ((below_box w (insO 23 A y z)).cell (p := ⟨eb, 3, none⟩) l3).trans h3
  have dg : ∀ i, (w.alloc (insO 23 A y z)).frozen? ⟨eb, i, none⟩ = false := fun i => ((below_box w (insO 23 A y z)).frozen (p := ⟨eb, i, none⟩) l3).trans (hg i)
  go_wp2_with fail
  generalize hV : World.alloc _ _ = V
  have hB1 : Below w.heap.size (w.setCell ⟨eb, 3, none⟩ (.int .i64 A)) V := by
    rw [← hV]
    have hq := below_box (w.setCell ⟨eb, 3, none⟩ (.int .i64 A)) (insO 23 A y z)
    rw [size_setCell] at hq
    exact hq
  have hN : V.heap[w.heap.size]? = some (insO 23 A y z) := by
    rw [← hV]
    have hq := heap_alloc_new (w.setCell ⟨eb, 3, none⟩ (.int .i64 A)) (insO 23 A y z)
    rw [size_setCell] at hq
    exact hq
  obtain ⟨n0, n1, n2, n3⟩ := cells4 hN
  have Hb : Hid (V.heap[b]? = w.heap[b]?) := Lib.hid ((hB1.block b lb).trans (Below.heap_setCell _ _ _ _ hne))
  have HS : Hid (w.heap.size ≤ V.heap.size) := Lib.hid (Nat.le_of_lt (cell_lt n1))
  have H1 := Lib.hid hB1
  clear hV hB1 hN d3 dg h3 hg
  go_still_tail 6, (by kernel_rfl)
  go_wp2_with (first
    | (go_at_call 91; refine (HT.out _ (by exact Hb.out)).mono ?_; rintro e u ⟨rfl, hu⟩))
  go_ret
  refine ⟨rfl, ?_⟩
  exact Below.trans (puts_both l H1.out.drew) (hu.mono HS.out)

set_option maxHeartbeats 1000000 in
theorem touch_bump (b eb k A B C : Nat) (hA : A < 4) (hB : B < 4) (hC : C < 4) (x v y o3 o4 : Int) (w : World) (h1 : w.cell? ⟨b, 45 + B, none⟩ = some (.int .i64 x)) (h2 : w.cell? ⟨b, 1 + k * 6 + 2 + A, none⟩ = some (.int .i64 v)) (h5 : w.cell? ⟨b, 1 + k * 6 + 2 + C, none⟩ = some (.int .i64 y)) (hk : k < 6) (hf : ∀ i, w.frozen? ⟨b, i, none⟩ = false)
    (h3 : w.cell? ⟨eb, 3, none⟩ = some (.int .i64 o3)) (h4 : w.cell? ⟨eb, 4, none⟩ = some (.int .i64 o4)) (hg : ∀ i, w.frozen? ⟨eb, i, none⟩ = false) (hne : b ≠ eb) :
    Calls Try.prog 72 #[.pointer (some ⟨b, 0, none⟩), .pointer (some ⟨b, 1 + k * 6, none⟩), insV 19 A B C, .pointer (some ⟨eb, 0, none⟩)] w fun e w' => e = .returned (.tuple #[]) ∧ Below w.heap.size ((((w.setCell ⟨eb, 3, none⟩ (.int .i64 B)).setCell ⟨eb, 4, none⟩ (.int .i64 x)).setCell ⟨b, 45 + B, none⟩ (.int .i64 (wrap64 (x + y)))).setCell ⟨b, 1 + k * 6 + 2 + A, none⟩ (.int .i64 x)) w' := by
  have hA4 : (A : Int) < 4 := by omega
  have hB4 : (B : Int) < 4 := by omega
  have hC4 : (C : Int) < 4 := by omega
  have l1 := cell_lt h1
  have l3 := cell_lt h3
  go_enter Try.func72, Try.ntmps72
  go_wp2_with fail
  generalize hV : World.alloc w _ = V
  have hB : Below w.heap.size w V := by rw [← hV]; exact below_box _ _
  have hN : V.heap[w.heap.size]? = some (insO 19 A B C) := by rw [← hV]; exact heap_alloc_new _ _
  obtain ⟨n0, n1, n2, n3⟩ := cells4 hN
  have d1 : V.cell? ⟨b, 45 + B, none⟩ = some (.int .i64 x) := (hB.cell (p := ⟨b, 45 + B, none⟩) l1).trans h1
  have d3 : V.cell? ⟨eb, 3, none⟩ = some (.int .i64 o3) := (hB.cell (p := ⟨eb, 3, none⟩) l3).trans h3
  have d4 : V.cell? ⟨eb, 4, none⟩ = some (.int .i64 o4) := (hB.cell (p := ⟨eb, 4, none⟩) l3).trans h4
  have dg : ∀ i, V.frozen? ⟨eb, i, none⟩ = false := fun i => (hB.frozen (p := ⟨eb, i, none⟩) l3).trans (hg i)
  have HB := Lib.hid hB
  have H2 := Lib.hid ((hB.cell (p := ⟨b, 1 + k * 6 + 2 + A, none⟩) l1).trans h2)
  have H5 := Lib.hid ((hB.cell (p := ⟨b, 1 + k * 6 + 2 + C, none⟩) l1).trans h5)
  have HF := Lib.hid (fun i => (hB.frozen (p := ⟨b, i, none⟩) l1).trans (hf i))
  clear hV hB hN h1 h2 h3 h4 h5 hf hg
  go_wp2_with fail
  go_region
  have Hl : w.heap.size ≠ eb := by omega
  have Hlb : w.heap.size ≠ b := by omega
  generalize hU : World.drew _ = U
  have e1 : U.cell? ⟨w.heap.size, 2, none⟩ = some (.int .i64 B) := by rw [← hU]; exact (cell_two Hl).trans n2
  have e2 : U.cell? ⟨w.heap.size, 3, none⟩ = some (.int .i64 C) := by rw [← hU]; exact (cell_two Hl).trans n3
  have e3 : U.cell? ⟨b, 45 + B, none⟩ = some (.int .i64 x) := by rw [← hU]; exact (cell_two hne).trans d1
  have e4 : U.cell? ⟨b, 1 + k * 6 + 2 + C, none⟩ = some (.int .i64 y) := by rw [← hU]; exact (cell_two hne).trans H5.out
  have ef : ∀ j, U.frozen? ⟨b, j, none⟩ = false := fun j => by rw [← hU]; simpa using HF.out _
  have E5 := Lib.hid (show U.cell? ⟨eb, 4, none⟩ = some (.int .i64 x) by rw [← hU]; exact cell_last d4 (by omega))
  have E6 := Lib.hid (show U.cell? ⟨w.heap.size, 1, none⟩ = some (.int .i64 A) by rw [← hU]; exact (cell_two Hl).trans n1)
  have E7 := Lib.hid (show U.cell? ⟨b, 1 + k * 6 + 2 + A, none⟩ = some (.int .i64 v) by rw [← hU]; exact (cell_two hne).trans H2.out)
  have HU := Lib.hid hU
  clear hU n0 n1 n2 n3 d1 d3 d4 dg
  go_wp2_with fail
  go_region
  generalize hX : World.drew _ = X
  have x1 : X.cell? ⟨w.heap.size, 1, none⟩ = some (.int .i64 A) := by rw [← hX]; exact (cell_off Hlb).trans E6.out
  have x2 : X.cell? ⟨eb, 4, none⟩ = some (.int .i64 x) := by rw [← hX]; exact (cell_off hne.symm).trans E5.out
  have x3 : X.cell? ⟨b, 1 + k * 6 + 2 + A, none⟩ = some (.int .i64 v) := by rw [← hX]; exact (cell_ne (by omega)).trans E7.out
  have xf : ∀ j, X.frozen? ⟨b, j, none⟩ = false := fun j => by rw [← hX]; simpa using ef j
  have HX := Lib.hid hX
  clear hX e1 e2 e3 e4 ef
  go_wp2_with fail
  go_region
  go_wp2
  first | go_end0 | refine bodyPost_ret (results_none rfl _ _ _) rfl ?_
  refine ⟨rfl, ?_⟩
  rw [← HX.out, ← HU.out]
  exact (below_both (below_both (below_both (below_both HB.out _ _) _ _).drew _ _).drew _ _).drew
end Go.Proofs.Ytfcfdneganknjaa
