/- Begin. -/
import Derived.Test.YtfcfdneganknjaaStateDo3
import Derived.Deep.RegionHeld3
namespace Go.Proofs.Ytfcfdneganknjaa
set_option linter.unusedVariables false
set_option linter.unusedSimpArgs false
set_option maxRecDepth 100000
open Go.ChangeShapes Go.WideShapes Go.ChangeAt Go.RowKit

set_option maxHeartbeats 1000000 in
theorem do_26 (b eb k A B : Nat) (z : Int) (hA : A < 4) (hB : B < 4) (v o3 o5 : Int) (r : Bool) (l : List (Nat × Value)) (w : World) (h2 : (putsB b l w).cell? ⟨b, 1 + k * 6 + 2 + A, none⟩ = some (.int .i64 v)) (hf : ∀ i, w.frozen? ⟨b, i, none⟩ = false)
    (h3 : w.cell? ⟨eb, 3, none⟩ = some (.int .i64 o3)) (h5 : w.cell? ⟨eb, 5, none⟩ = some (.int .i64 o5)) (hg : ∀ i, w.frozen? ⟨eb, i, none⟩ = false) (hne : b ≠ eb) (lb : b < w.heap.size)
    (ht : ∀ u : World, u.heap[b]? = w.heap[b]? → Calls Try.prog 78 #[.pointer (some ⟨b, 85 + B, none⟩)] u fun e u' => e = .returned (.bool r) ∧ Below u.heap.size (putsB b l u) u') :
    Calls Try.prog 58 #[.pointer (some ⟨b, 0, none⟩), .pointer (some ⟨b, 1 + k * 6, none⟩), insV 26 A B z, .pointer (some ⟨eb, 0, none⟩)] w fun e w' => e = .returned (.bool true) ∧ Below w.heap.size ((((putsB b l w).setCell ⟨eb, 3, none⟩ (.int .i64 B)).setCell ⟨eb, 5, none⟩ (.int .i64 (bitN r))).setCell ⟨b, 1 + k * 6 + 2 + A, none⟩ (.int .i64 (bitN r))) w' := by
  have hA4 : (A : Int) < 4 := by omega
  have hB4 : (B : Int) < 4 := by omega
  have l3 := cell_lt h3
  have HT := Lib.hid ht
  have H2 := Lib.hid h2
  have HF := Lib.hid hf
  go_enter Try.func58, Try.ntmps58
  clear ht h2 hf
  go_wp2_with fail
  generalize hV : World.alloc w _ = V
  have hB1 : Below w.heap.size w V := by rw [← hV]; exact below_box _ _
  have hN : V.heap[w.heap.size]? = some (insO 26 A B z) := by rw [← hV]; exact heap_alloc_new _ _
  obtain ⟨n0, n1, n2, n3⟩ := cells4 hN
  have c3 : V.cell? ⟨eb, 3, none⟩ = some (.int .i64 o3) := (hB1.cell (p := ⟨eb, 3, none⟩) l3).trans h3
  have c5 : V.cell? ⟨eb, 5, none⟩ = some (.int .i64 o5) := (hB1.cell (p := ⟨eb, 5, none⟩) l3).trans h5
  have cg : ∀ i, V.frozen? ⟨eb, i, none⟩ = false := fun i => (hB1.frozen (p := ⟨eb, i, none⟩) l3).trans (hg i)
  have Hb : Hid (V.heap[b]? = w.heap[b]?) := Lib.hid (hB1.block b lb)
  have H1 := Lib.hid hB1
  clear hV hB1 hN h3 h5 hg
  have lV : Hid (eb < V.heap.size ∧ b < V.heap.size ∧ w.heap.size < V.heap.size) := Lib.hid ⟨cell_lt c3, by have := H1.out.size; omega, cell_lt n1⟩
  have Hw : w.heap.size ≠ b := by omega
  have He : w.heap.size ≠ eb := by omega
  go_wp2_with fail
  go_region_held3 (fun u => u.cell? ⟨w.heap.size, 2, none⟩ = some (.int .i64 B)) (first | exact n2 | exact (hi 2).trans n2 | exact (cell_off He).trans ((hi 2).trans n2) | exact (cell_off He).trans ((cell_off He).trans ((hi 2).trans n2)) | assumption) (first
    | (go_at_call 78; refine (HT.out _ (by exact Hb.out)).mono ?_; rintro e u ⟨rfl, hU⟩; have g3 : u.cell? ⟨eb, 3, none⟩ = some (.int .i64 o3) := (hU.cell (p := ⟨eb, 3, none⟩) lV.out.1).trans ((puts_off hne.symm l _).trans c3); have g5 : u.cell? ⟨eb, 5, none⟩ = some (.int .i64 o5) := (hU.cell (p := ⟨eb, 5, none⟩) lV.out.1).trans ((puts_off hne.symm l _).trans c5); have gg : ∀ i, u.frozen? ⟨eb, i, none⟩ = false := fun i => (hU.frozen (p := ⟨eb, i, none⟩) lV.out.1).trans ((puts_frozen b _ l _).trans (cg i)); have hi : ∀ j, u.cell? ⟨w.heap.size, j, none⟩ = V.cell? ⟨w.heap.size, j, none⟩ := fun j => (hU.cell (p := ⟨w.heap.size, j, none⟩) lV.out.2.2).trans (puts_off Hw l _))
    | (go_at_call 77; refine (number_any r _).mono ?_; rintro e u' ⟨rfl, rfl⟩))
  have hu : ∀ j, u.cell? ⟨b, j, none⟩ = (putsB b l w).cell? ⟨b, j, none⟩ := fun j => (hU.cell (p := ⟨b, j, none⟩) lV.out.2.1).trans (World.cell?_of_block (puts_block l (by exact Hb.out)))
  have hfu : ∀ j, u.frozen? ⟨b, j, none⟩ = false := fun j => (hU.frozen (p := ⟨b, j, none⟩) lV.out.2.1).trans ((puts_frozen b _ l _).trans ((World.frozen?_of_block (by exact Hb.out)).trans (HF.out j)))
  generalize hT : World.setCell _ _ _ = T
  have e0 : ∀ d j, d ≠ eb → T.cell? ⟨d, j, none⟩ = u.cell? ⟨d, j, none⟩ := fun d j hd => by rw [← hT]; exact (cell_off hd).trans (cell_off hd)
  have e1 : T.cell? ⟨w.heap.size, 1, none⟩ = some (.int .i64 A) := (e0 _ _ He).trans ((hi 1).trans n1)
  have e2 : T.cell? ⟨b, 1 + k * 6 + 2 + A, none⟩ = some (.int .i64 v) := (e0 _ _ hne).trans ((hu _).trans H2.out)
  have e3 : T.cell? ⟨eb, 5, none⟩ = some (.int .i64 (bitN r)) := by rw [← hT]; exact cell_is ((cell_ne (by omega)).trans g5)
  have ef : ∀ j, T.frozen? ⟨b, j, none⟩ = false := fun j => by rw [← hT]; simpa using hfu j
  have HTT := Lib.hid hT
  have HU := Lib.hid hU
  clear hT hU hu hi hfu e0 n0 n1 n2 n3 c3 c5 cg g3 g5 gg
  go_wp2_with fail
  go_region
  go_wp2
  go_ret
  refine ⟨rfl, ?_⟩
  rw [← HTT.out]
  exact (below_both (below_both (below_both ((puts_both l H1.out.drew).trans (HU.out.mono (by have := lV.out.2.2; exact Nat.le_of_lt this))) _ _) _ _) _ _).drew
end Go.Proofs.Ytfcfdneganknjaa
