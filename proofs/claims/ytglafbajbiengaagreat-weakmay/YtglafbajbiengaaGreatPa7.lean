/- What the laws of this seat stand on, part 7. -/
import Derived.Test.YtglafbajbiengaaGreatPa0
import Derived.Test.YtglafbajbiengaaGreatPa6
set_option linter.unusedVariables false
set_option linter.unusedSimpArgs false
set_option maxRecDepth 100000
set_option maxHeartbeats 40000000
namespace Go.Proofs.YtglafbajbiengaaGreat
open Go.ChangeShapes Go.WideShapes Go.ChangeAt Go.RowKit
/-- Cells of one block are put, one after the other. -/
def putsB (b : Nat) : List (Nat × Value) → World → World
  | [], w => w
  | (i, v) :: l, w => putsB b l (w.setCell ⟨b, i, none⟩ v)
theorem puts_both {B b : Nat} : ∀ (l : List (Nat × Value)) {w v : World}, Below B w v → Below B (putsB b l w) (putsB b l v)
  | [], _, _, h => h
  | (i, x) :: l, _, _, h => puts_both l (below_both h _ _)
theorem puts_off {b d j : Nat} (h : d ≠ b) : ∀ (l : List (Nat × Value)) (w : World), (putsB b l w).cell? ⟨d, j, none⟩ = w.cell? ⟨d, j, none⟩
  | [], _ => rfl
  | (i, x) :: l, w => (puts_off h l _).trans (cell_off h)
theorem puts_frozen (b : Nat) (a : Addr) : ∀ (l : List (Nat × Value)) (w : World), (putsB b l w).frozen? a = w.frozen? a
  | [], _ => rfl
  | (i, x) :: l, w => (puts_frozen b a l _).trans (by simp)
theorem puts_block {b : Nat} : ∀ (l : List (Nat × Value)) {w v : World}, v.heap[b]? = w.heap[b]? → (putsB b l v).heap[b]? = (putsB b l w).heap[b]?
  | [], _, _, h => h
  | (i, x) :: l, w, v, h => puts_block l (by simp only [World.setCell, Array.getElem?_modify, if_pos, h])
/-- What comes out of a channel: the number, how, what is put. -/
def takeL (o j : Nat) (x y z : Int) (t : Bool) : Int × Int × List (Nat × Value) := match j with
  | 0 => (0, if t then 2 else 0, [])
  | 1 => (x, 1, [(o + 3, .int .i64 0)])
  | 2 => (x, 1, [(o, .int .i64 y), (o + 3, .int .i64 1)])
  | _ => (x, 1, [(o, .int .i64 y), (o + 1, .int .i64 z), (o + 3, .int .i64 2)])
theorem take_any (b o j : Nat) (hj : j ≤ 3) (x y z : Int) (t : Bool) (w : World) (h1 : w.cell? ⟨b, o + 3, none⟩ = some (.int .i64 j)) (h2 : w.cell? ⟨b, o, none⟩ = some (.int .i64 x)) (h3 : w.cell? ⟨b, o + 1, none⟩ = some (.int .i64 y)) (h4 : w.cell? ⟨b, o + 2, none⟩ = some (.int .i64 z)) (h5 : w.cell? ⟨b, o + 5, none⟩ = some (.bool t)) (hf : ∀ i, w.frozen? ⟨b, i, none⟩ = false) :
    Calls Tryz.prog 126 #[.pointer (some ⟨b, o, none⟩)] w fun e w' => e = .returned (.tuple #[.int .i64 (takeL o j x y z t).1, .int .i64 (takeL o j x y z t).2.1]) ∧ Below w.heap.size (putsB b (takeL o j x y z t).2.2 w) w' := by
  match j, hj with
  | 0, _ =>
    cases t
    · exact take_none b o w h1 h5
    · exact take_over b o w h1 h5
  | 1, _ => exact take_1 b o x y z w h1 h2 h3 h4 hf
  | 2, _ => exact take_2 b o x y z w h1 h2 h3 h4 hf
  | 3, _ => exact take_3 b o x y z w h1 h2 h3 h4 hf
theorem pass_recv (b eb k A B : Nat) (z : Int) (hA : A < 4) (hB : B < 4) (n md o3 o4 o5 : Int) (l : List (Nat × Value)) (w : World) (h6 : ∀ r, r < 4 → ∃ v, (putsB b l w).cell? ⟨b, 1 + k * 6 + 2 + r, none⟩ = some (.int .i64 v)) (hf : ∀ i, w.frozen? ⟨b, i, none⟩ = false)
    (h3 : w.cell? ⟨eb, 3, none⟩ = some (.int .i64 o3)) (h4 : w.cell? ⟨eb, 4, none⟩ = some (.int .i64 o4)) (h5 : w.cell? ⟨eb, 5, none⟩ = some (.int .i64 o5)) (hg : ∀ i, w.frozen? ⟨eb, i, none⟩ = false) (hne : b ≠ eb) (lb : b < w.heap.size)
    (ht : ∀ u : World, u.heap[b]? = w.heap[b]? → Calls Tryz.prog 126 #[.pointer (some ⟨b, 57 + B * 6, none⟩)] u fun e u' => e = .returned (.tuple #[.int .i64 n, .int .i64 md]) ∧ Below u.heap.size (putsB b l u) u') :
    Calls Tryz.prog 98 #[.pointer (some ⟨b, 0, none⟩), .pointer (some ⟨b, 1 + k * 6, none⟩), insV 21 A B z, .pointer (some ⟨eb, 0, none⟩)] w fun e w' => e = .returned (.bool true) ∧ Below w.heap.size ((((putsB b l (w.setCell ⟨eb, 3, none⟩ (.int .i64 B))).setCell ⟨eb, 4, none⟩ (.int .i64 n)).setCell ⟨eb, 5, none⟩ (.int .i64 md)).setCell ⟨b, 1 + k * 6 + 2 + A, none⟩ (.int .i64 n)) w' := by
  have hA4 : (A : Int) < 4 := by omega
  have hB4 : (B : Int) < 4 := by omega
  have l3 := cell_lt h3
  have HT := Lib.hid ht
  obtain ⟨v, h2⟩ := h6 A hA
  have H6 := Lib.hid h6
  have H2 := Lib.hid h2
  have HF := Lib.hid hf
  go_enter Tryz.func98, Tryz.ntmps98
  clear ht h2 hf h6
  have HBe := Lib.hid ((below_box w (insO 21 A B z)).cell (p := ⟨eb, 3, none⟩) l3)
  have d3 : (w.alloc (insO 21 A B z)).cell? ⟨eb, 3, none⟩ = some (.int .i64 o3) := HBe.out.trans h3
  have dg : ∀ i, (w.alloc (insO 21 A B z)).frozen? ⟨eb, i, none⟩ = false := fun i => ((below_box w (insO 21 A B z)).frozen (p := ⟨eb, i, none⟩) l3).trans (hg i)
  go_wp2_with fail
  generalize hV : World.alloc _ _ = V
  have hB1 : Below w.heap.size (w.setCell ⟨eb, 3, none⟩ (.int .i64 B)) V := by
    rw [← hV]
    have hq := below_box (w.setCell ⟨eb, 3, none⟩ (.int .i64 B)) (insO 21 A B z)
    rw [size_setCell] at hq
    exact hq
  have hN : V.heap[w.heap.size]? = some (insO 21 A B z) := by
    rw [← hV]
    have hq := heap_alloc_new (w.setCell ⟨eb, 3, none⟩ (.int .i64 B)) (insO 21 A B z)
    rw [size_setCell] at hq
    exact hq
  obtain ⟨n0, n1, n2, n3⟩ := cells4 hN
  have c4 : V.cell? ⟨eb, 4, none⟩ = some (.int .i64 o4) := (hB1.cell (p := ⟨eb, 4, none⟩) l3).trans ((cell_ne (by omega)).trans h4)
  have c5 : V.cell? ⟨eb, 5, none⟩ = some (.int .i64 o5) := (hB1.cell (p := ⟨eb, 5, none⟩) l3).trans ((cell_ne (by omega)).trans h5)
  have cg : ∀ i, V.frozen? ⟨eb, i, none⟩ = false := fun i => (hB1.frozen (p := ⟨eb, i, none⟩) l3).trans (by simpa using hg i)
  have Hb : Hid (V.heap[b]? = w.heap[b]?) := Lib.hid ((hB1.block b lb).trans (Below.heap_setCell _ _ _ _ hne))
  have H1 := Lib.hid hB1
  clear hV hB1 hN d3 dg h3 h4 h5 hg
  have lV : Hid (eb < V.heap.size ∧ b < V.heap.size ∧ w.heap.size < V.heap.size) := Lib.hid ⟨cell_lt c4, by have := H1.out.size; rw [size_setCell] at this; omega, cell_lt n1⟩
  have Hw : w.heap.size ≠ b := by omega
  have He : w.heap.size ≠ eb := by omega
  go_region_law (first
    | (go_simp; go_at_call 126; refine (HT.out _ (by exact Hb.out)).mono ?_; rintro e u ⟨rfl, hU⟩; have g4 : u.cell? ⟨eb, 4, none⟩ = some (.int .i64 o4) := (hU.cell (p := ⟨eb, 4, none⟩) lV.out.1).trans ((puts_off hne.symm l _).trans c4); have g5 : u.cell? ⟨eb, 5, none⟩ = some (.int .i64 o5) := (hU.cell (p := ⟨eb, 5, none⟩) lV.out.1).trans ((puts_off hne.symm l _).trans c5); have gg : ∀ i, u.frozen? ⟨eb, i, none⟩ = false := fun i => (hU.frozen (p := ⟨eb, i, none⟩) lV.out.1).trans ((puts_frozen b _ l _).trans (cg i))))
  have hu : ∀ j, u.cell? ⟨b, j, none⟩ = (putsB b l w).cell? ⟨b, j, none⟩ := fun j => (hU.cell (p := ⟨b, j, none⟩) lV.out.2.1).trans (World.cell?_of_block (puts_block l (by exact Hb.out)))
  have hi : ∀ j, u.cell? ⟨w.heap.size, j, none⟩ = V.cell? ⟨w.heap.size, j, none⟩ := fun j => (hU.cell (p := ⟨w.heap.size, j, none⟩) lV.out.2.2).trans (puts_off Hw l _)
  have hfu : ∀ j, u.frozen? ⟨b, j, none⟩ = false := fun j => (hU.frozen (p := ⟨b, j, none⟩) lV.out.2.1).trans ((puts_frozen b _ l _).trans ((World.frozen?_of_block (by exact Hb.out)).trans (HF.out j)))
  generalize hT : World.setCell _ _ _ = T
  have e0 : ∀ d j, d ≠ eb → T.cell? ⟨d, j, none⟩ = u.cell? ⟨d, j, none⟩ := fun d j hd => by rw [← hT]; exact (cell_off hd).trans (cell_off hd)
  have e1 : T.cell? ⟨w.heap.size, 1, none⟩ = some (.int .i64 A) := (e0 _ _ He).trans ((hi 1).trans n1)
  have e2 : T.cell? ⟨b, 1 + k * 6 + 2 + A, none⟩ = some (.int .i64 v) := (e0 _ _ hne).trans ((hu _).trans H2.out)
  have e3 : T.cell? ⟨eb, 4, none⟩ = some (.int .i64 n) := by rw [← hT]; exact (cell_ne (by omega)).trans (cell_is g4)
  have ef : ∀ j, T.frozen? ⟨b, j, none⟩ = false := fun j => by rw [← hT]; simpa using hfu j
  have HTT := Lib.hid hT
  have HU := Lib.hid hU
  clear hT hU hu hi hfu e0 n0 n1 n2 n3 c4 c5 cg g4 g5 gg
  go_wp2_with fail
  go_region
  go_wp2
  go_ret
  refine ⟨rfl, ?_⟩
  rw [← HTT.out]
  exact (below_both (below_both (below_both ((puts_both l H1.out.drew).trans (HU.out.mono (by have := lV.out.2.2; exact Nat.le_of_lt this))) _ _) _ _) _ _).drew
theorem pass_poll (b eb k A B C : Nat) (hC : C < 4) (hA : A < 4) (hB : B < 4) (n md o3 o4 o5 : Int) (l : List (Nat × Value)) (w : World) (h6 : ∀ r, r < 4 → ∃ v, (putsB b l w).cell? ⟨b, 1 + k * 6 + 2 + r, none⟩ = some (.int .i64 v)) (hf : ∀ i, w.frozen? ⟨b, i, none⟩ = false)
    (h3 : w.cell? ⟨eb, 3, none⟩ = some (.int .i64 o3)) (h4 : w.cell? ⟨eb, 4, none⟩ = some (.int .i64 o4)) (h5 : w.cell? ⟨eb, 5, none⟩ = some (.int .i64 o5)) (hg : ∀ i, w.frozen? ⟨eb, i, none⟩ = false) (hne : b ≠ eb) (lb : b < w.heap.size)
    (ht : ∀ u : World, u.heap[b]? = w.heap[b]? → Calls Tryz.prog 126 #[.pointer (some ⟨b, 57 + B * 6, none⟩)] u fun e u' => e = .returned (.tuple #[.int .i64 n, .int .i64 md]) ∧ Below u.heap.size (putsB b l u) u') :
    Calls Tryz.prog 98 #[.pointer (some ⟨b, 0, none⟩), .pointer (some ⟨b, 1 + k * 6, none⟩), insV 22 A B C, .pointer (some ⟨eb, 0, none⟩)] w fun e w' => e = .returned (.bool true) ∧ Below w.heap.size (((((putsB b l (w.setCell ⟨eb, 3, none⟩ (.int .i64 B))).setCell ⟨eb, 4, none⟩ (.int .i64 n)).setCell ⟨eb, 5, none⟩ (.int .i64 md)).setCell ⟨b, 1 + k * 6 + 2 + A, none⟩ (.int .i64 n)).setCell ⟨b, 1 + k * 6 + 2 + C, none⟩ (.int .i64 (bitN (md == 1)))) w' := by
  have hA4 : (A : Int) < 4 := by omega
  have hB4 : (B : Int) < 4 := by omega
  have hC4 : (C : Int) < 4 := by omega
  have l3 := cell_lt h3
  have HT := Lib.hid ht
  obtain ⟨v, h2⟩ := h6 A hA
  have H6 := Lib.hid h6
  have H2 := Lib.hid h2
  have HF := Lib.hid hf
  go_enter Tryz.func98, Tryz.ntmps98
  clear ht h2 hf h6
  have HBe := Lib.hid ((below_box w (insO 22 A B C)).cell (p := ⟨eb, 3, none⟩) l3)
  have d3 : (w.alloc (insO 22 A B C)).cell? ⟨eb, 3, none⟩ = some (.int .i64 o3) := HBe.out.trans h3
  have dg : ∀ i, (w.alloc (insO 22 A B C)).frozen? ⟨eb, i, none⟩ = false := fun i => ((below_box w (insO 22 A B C)).frozen (p := ⟨eb, i, none⟩) l3).trans (hg i)
  go_wp2_with fail
  generalize hV : World.alloc _ _ = V
  have hB1 : Below w.heap.size (w.setCell ⟨eb, 3, none⟩ (.int .i64 B)) V := by
    rw [← hV]
    have hq := below_box (w.setCell ⟨eb, 3, none⟩ (.int .i64 B)) (insO 22 A B C)
    rw [size_setCell] at hq
    exact hq
  have hN : V.heap[w.heap.size]? = some (insO 22 A B C) := by
    rw [← hV]
    have hq := heap_alloc_new (w.setCell ⟨eb, 3, none⟩ (.int .i64 B)) (insO 22 A B C)
    rw [size_setCell] at hq
    exact hq
  obtain ⟨n0, n1, n2, n3⟩ := cells4 hN
  have c4 : V.cell? ⟨eb, 4, none⟩ = some (.int .i64 o4) := (hB1.cell (p := ⟨eb, 4, none⟩) l3).trans ((cell_ne (by omega)).trans h4)
  have c5 : V.cell? ⟨eb, 5, none⟩ = some (.int .i64 o5) := (hB1.cell (p := ⟨eb, 5, none⟩) l3).trans ((cell_ne (by omega)).trans h5)
  have cg : ∀ i, V.frozen? ⟨eb, i, none⟩ = false := fun i => (hB1.frozen (p := ⟨eb, i, none⟩) l3).trans (by simpa using hg i)
  have Hb : Hid (V.heap[b]? = w.heap[b]?) := Lib.hid ((hB1.block b lb).trans (Below.heap_setCell _ _ _ _ hne))
  have H1 := Lib.hid hB1
  clear hV hB1 hN d3 dg h3 h4 h5 hg
  have lV : Hid (eb < V.heap.size ∧ b < V.heap.size ∧ w.heap.size < V.heap.size) := Lib.hid ⟨cell_lt c4, by have := H1.out.size; rw [size_setCell] at this; omega, cell_lt n1⟩
  have Hw : w.heap.size ≠ b := by omega
  have He : w.heap.size ≠ eb := by omega
  go_region_law (first
    | (go_simp; go_at_call 126; refine (HT.out _ (by exact Hb.out)).mono ?_; rintro e u ⟨rfl, hU⟩; have g4 : u.cell? ⟨eb, 4, none⟩ = some (.int .i64 o4) := (hU.cell (p := ⟨eb, 4, none⟩) lV.out.1).trans ((puts_off hne.symm l _).trans c4); have g5 : u.cell? ⟨eb, 5, none⟩ = some (.int .i64 o5) := (hU.cell (p := ⟨eb, 5, none⟩) lV.out.1).trans ((puts_off hne.symm l _).trans c5); have gg : ∀ i, u.frozen? ⟨eb, i, none⟩ = false := fun i => (hU.frozen (p := ⟨eb, i, none⟩) lV.out.1).trans ((puts_frozen b _ l _).trans (cg i))))
  have hu : ∀ j, u.cell? ⟨b, j, none⟩ = (putsB b l w).cell? ⟨b, j, none⟩ := fun j => (hU.cell (p := ⟨b, j, none⟩) lV.out.2.1).trans (World.cell?_of_block (puts_block l (by exact Hb.out)))
  have hi : ∀ j, u.cell? ⟨w.heap.size, j, none⟩ = V.cell? ⟨w.heap.size, j, none⟩ := fun j => (hU.cell (p := ⟨w.heap.size, j, none⟩) lV.out.2.2).trans (puts_off Hw l _)
  have hfu : ∀ j, u.frozen? ⟨b, j, none⟩ = false := fun j => (hU.frozen (p := ⟨b, j, none⟩) lV.out.2.1).trans ((puts_frozen b _ l _).trans ((World.frozen?_of_block (by exact Hb.out)).trans (HF.out j)))
  generalize hT : World.setCell _ _ _ = T
  have e0 : ∀ d j, d ≠ eb → T.cell? ⟨d, j, none⟩ = u.cell? ⟨d, j, none⟩ := fun d j hd => by rw [← hT]; exact (cell_off hd).trans (cell_off hd)
  have e1 : T.cell? ⟨w.heap.size, 1, none⟩ = some (.int .i64 A) := (e0 _ _ He).trans ((hi 1).trans n1)
  have e2 : T.cell? ⟨b, 1 + k * 6 + 2 + A, none⟩ = some (.int .i64 v) := (e0 _ _ hne).trans ((hu _).trans H2.out)
  have e3 : T.cell? ⟨eb, 4, none⟩ = some (.int .i64 n) := by rw [← hT]; exact (cell_ne (by omega)).trans (cell_is g4)
  have e4 : T.cell? ⟨w.heap.size, 3, none⟩ = some (.int .i64 C) := (e0 _ _ He).trans ((hi 3).trans n3)
  have e5 : T.cell? ⟨eb, 5, none⟩ = some (.int .i64 md) := by rw [← hT]; exact cell_is ((cell_ne (by omega)).trans g5)
  obtain ⟨vc, h7⟩ := H6.out C hC
  have E6 := Lib.hid (show T.cell? ⟨b, 1 + k * 6 + 2 + C, none⟩ = some (.int .i64 vc) from (e0 _ _ hne).trans ((hu _).trans h7))
  clear h7
  have ef : ∀ j, T.frozen? ⟨b, j, none⟩ = false := fun j => by rw [← hT]; simpa using hfu j
  have HTT := Lib.hid hT
  have HU := Lib.hid hU
  clear hT hU hu hi hfu e0 n0 n1 n2 n3 c4 c5 cg g4 g5 gg
  go_wp2_with fail
  go_region
  generalize hX : World.drew _ = X
  have x1 : X.cell? ⟨w.heap.size, 3, none⟩ = some (.int .i64 C) := by rw [← hX]; exact (cell_off Hw).trans e4
  have x2 : X.cell? ⟨eb, 5, none⟩ = some (.int .i64 md) := by rw [← hX]; exact (cell_off hne.symm).trans e5
  have x3 : ∃ y, X.cell? ⟨b, 1 + k * 6 + 2 + C, none⟩ = some (.int .i64 y) := by
    rw [← hX]
    by_cases hca : C = A
    · exact ⟨n, by rw [hca]; exact cell_is e2⟩
    · exact ⟨vc, (cell_ne (by omega)).trans E6.out⟩
  have xf : ∀ j, X.frozen? ⟨b, j, none⟩ = false := fun j => by rw [← hX]; simpa using ef j
  obtain ⟨y, x3⟩ := x3
  have HX := Lib.hid hX
  clear hX e1 e2 e3 e4 e5 ef
  go_wp2_with fail
  refine wp_region_still_tail 12 (by kernel_rfl) (by kernel_rfl) ?_
  simp only [List.take_succ_cons, List.take_zero, List.drop_succ_cons, List.drop_zero]
  repeat still_step
  still_call ((number_any _ _).mono fun _ _ ⟨h1, h2⟩ => ⟨h1, h2.symm⟩)
  repeat still_step
  refine wpStill_nil ?_
  go_wp2
  go_ret
  refine ⟨rfl, ?_⟩
  rw [← HX.out]
  rw [← HTT.out]
  exact (below_both (below_both (below_both (below_both ((puts_both l H1.out.drew).trans (HU.out.mono (by have := lV.out.2.2; exact Nat.le_of_lt this))) _ _) _ _) _ _).drew _ _).drew
theorem pass_send (b eb k A B : Nat) (z : Int) (hA : A < 4) (hB : B < 4) (n o3 o4 : Int) (r : Bool) (l : List (Nat × Value)) (w : World) (h1 : w.cell? ⟨b, 1 + k * 6 + 2 + B, none⟩ = some (.int .i64 n))
    (h3 : w.cell? ⟨eb, 3, none⟩ = some (.int .i64 o3)) (h4 : w.cell? ⟨eb, 4, none⟩ = some (.int .i64 o4)) (hg : ∀ i, w.frozen? ⟨eb, i, none⟩ = false) (hne : b ≠ eb) (lb : b < w.heap.size)
    (ht : ∀ u : World, u.heap[b]? = w.heap[b]? → Calls Tryz.prog 125 #[.pointer (some ⟨b, 57 + A * 6, none⟩), .int .i64 n] u fun e u' => e = .returned (.bool r) ∧ Below u.heap.size (putsB b l u) u') :
    Calls Tryz.prog 98 #[.pointer (some ⟨b, 0, none⟩), .pointer (some ⟨b, 1 + k * 6, none⟩), insV 20 A B z, .pointer (some ⟨eb, 0, none⟩)] w fun e w' => e = .returned (.bool r) ∧ Below w.heap.size (putsB b l ((w.setCell ⟨eb, 3, none⟩ (.int .i64 A)).setCell ⟨eb, 4, none⟩ (.int .i64 n))) w' := by
  have hA4 : (A : Int) < 4 := by omega
  have hB4 : (B : Int) < 4 := by omega
  have l1 := cell_lt h1
  have l3 := cell_lt h3
  have HT := Lib.hid ht
  go_enter Tryz.func98, Tryz.ntmps98
  clear ht
  go_wp2_with fail
  generalize hV : World.alloc w _ = V
  have hB : Below w.heap.size w V := by rw [← hV]; exact below_box _ _
  have hN : V.heap[w.heap.size]? = some (insO 20 A B z) := by rw [← hV]; exact heap_alloc_new _ _
  obtain ⟨n0, n1, n2, n3⟩ := cells4 hN
  have d1 : V.cell? ⟨b, 1 + k * 6 + 2 + B, none⟩ = some (.int .i64 n) := (hB.cell (p := ⟨b, 1 + k * 6 + 2 + B, none⟩) l1).trans h1
  have d3 : V.cell? ⟨eb, 3, none⟩ = some (.int .i64 o3) := (hB.cell (p := ⟨eb, 3, none⟩) l3).trans h3
  have d4 : V.cell? ⟨eb, 4, none⟩ = some (.int .i64 o4) := (hB.cell (p := ⟨eb, 4, none⟩) l3).trans h4
  have dg : ∀ i, V.frozen? ⟨eb, i, none⟩ = false := fun i => (hB.frozen (p := ⟨eb, i, none⟩) l3).trans (hg i)
  have Hb : Hid (V.heap[b]? = w.heap[b]?) := Lib.hid (hB.block b lb)
  have HB := Lib.hid hB
  have HL := Lib.hid (show w.heap.size < V.heap.size from cell_lt n1)
  clear hV hB hN h1 h3 h4 hg
  go_wp2_with fail
  go_region
  have Hl : w.heap.size ≠ eb := by omega
  generalize hU : World.drew _ = U
  have e1 : U.cell? ⟨w.heap.size, 1, none⟩ = some (.int .i64 A) := by rw [← hU]; exact (cell_two Hl).trans n1
  have e3 : U.cell? ⟨eb, 4, none⟩ = some (.int .i64 n) := by rw [← hU]; exact cell_last d4 (by omega)
  have HbU : Hid (U.heap[b]? = w.heap[b]?) := Lib.hid (by rw [← hU]; exact (Below.heap_setCell _ _ _ _ hne).trans ((Below.heap_setCell _ _ _ _ hne).trans Hb.out))
  have HU := Lib.hid hU
  have HS : Hid (w.heap.size ≤ U.heap.size) := Lib.hid (by rw [← hU]; have := HL.out; simp; omega)
  clear hU n0 n1 n2 n3 d1 d3 d4 dg
  go_wp2_with fail
  go_still_tail 10, (by kernel_rfl)
  go_wp2_with (first
    | (go_at_call 125; refine (HT.out _ (by exact HbU.out)).mono ?_; rintro e u ⟨rfl, hu⟩))
  go_ret
  refine ⟨rfl, ?_⟩
  refine Below.trans (puts_both l ?_) (hu.mono HS.out)
  rw [← HU.out]
  exact ((below_both (below_both HB.out _ _) _ _).drew).drew
theorem pass_close (b eb A : Nat) (t : Addr) (y z : Int) (hA : A < 4) (o3 : Int) (r : Bool) (l : List (Nat × Value)) (w : World)
    (h3 : w.cell? ⟨eb, 3, none⟩ = some (.int .i64 o3)) (hg : ∀ i, w.frozen? ⟨eb, i, none⟩ = false) (hne : b ≠ eb) (lb : b < w.heap.size)
    (ht : ∀ u : World, u.heap[b]? = w.heap[b]? → Calls Tryz.prog 127 #[.pointer (some ⟨b, 57 + A * 6, none⟩)] u fun e u' => e = .returned (.bool r) ∧ Below u.heap.size (putsB b l u) u') :
    Calls Tryz.prog 98 #[.pointer (some ⟨b, 0, none⟩), .pointer (some t), insV 23 A y z, .pointer (some ⟨eb, 0, none⟩)] w fun e w' => e = .returned (.bool r) ∧ Below w.heap.size (putsB b l (w.setCell ⟨eb, 3, none⟩ (.int .i64 A))) w' := by
  have hA4 : (A : Int) < 4 := by omega
  have l3 := cell_lt h3
  have HT := Lib.hid ht
  go_enter Tryz.func98, Tryz.ntmps98
  clear ht
  have d3 : (w.alloc (insO 23 A y z)).cell? ⟨eb, 3, none⟩ = some (.int .i64 o3) := ((below_box w (insO 23 A y z)).cell (p := ⟨eb, 3, none⟩) l3).trans h3
  have dg : ∀ i, (w.alloc (insO 23 A y z)).frozen? ⟨eb, i, none⟩ = false := fun i => ((below_box w (insO 23 A y z)).frozen (p := ⟨eb, i, none⟩) l3).trans (hg i)
  go_wp2_with fail
  generalize hV : World.alloc _ _ = V
  have hB1 : Below w.heap.size (w.setCell ⟨eb, 3, none⟩ (.int .i64 A)) V := by
    rw [← hV]
    have hq := below_box (w.setCell ⟨eb, 3, none⟩ (.int .i64 A)) (insO 23 A y z)
    rw [size_setCell] at hq
    exact hq
  have hN : V.heap[w.heap.size]? = some (insO 23 A y z) := by
    rw [← hV]
    have hq := heap_alloc_new (w.setCell ⟨eb, 3, none⟩ (.int .i64 A)) (insO 23 A y z)
    rw [size_setCell] at hq
    exact hq
  obtain ⟨n0, n1, n2, n3⟩ := cells4 hN
  have Hb : Hid (V.heap[b]? = w.heap[b]?) := Lib.hid ((hB1.block b lb).trans (Below.heap_setCell _ _ _ _ hne))
  have HS : Hid (w.heap.size ≤ V.heap.size) := Lib.hid (Nat.le_of_lt (cell_lt n1))
  have H1 := Lib.hid hB1
  clear hV hB1 hN d3 dg h3 hg
  go_still_tail 6, (by kernel_rfl)
  go_wp2_with (first
    | (go_at_call 127; refine (HT.out _ (by exact Hb.out)).mono ?_; rintro e u ⟨rfl, hu⟩))
  go_ret
  refine ⟨rfl, ?_⟩
  exact Below.trans (puts_both l H1.out.drew) (hu.mono HS.out)
theorem touch_bump (b eb k A B C : Nat) (hA : A < 4) (hB : B < 4) (hC : C < 4) (x v y o3 o4 : Int) (w : World) (h1 : w.cell? ⟨b, 45 + B, none⟩ = some (.int .i64 x)) (h2 : w.cell? ⟨b, 1 + k * 6 + 2 + A, none⟩ = some (.int .i64 v)) (h5 : w.cell? ⟨b, 1 + k * 6 + 2 + C, none⟩ = some (.int .i64 y)) (hk : k < 6) (hf : ∀ i, w.frozen? ⟨b, i, none⟩ = false)
    (h3 : w.cell? ⟨eb, 3, none⟩ = some (.int .i64 o3)) (h4 : w.cell? ⟨eb, 4, none⟩ = some (.int .i64 o4)) (hg : ∀ i, w.frozen? ⟨eb, i, none⟩ = false) (hne : b ≠ eb) :
    Calls Tryz.prog 95 #[.pointer (some ⟨b, 0, none⟩), .pointer (some ⟨b, 1 + k * 6, none⟩), insV 19 A B C, .pointer (some ⟨eb, 0, none⟩)] w fun e w' => e = .returned (.tuple #[]) ∧ Below w.heap.size ((((w.setCell ⟨eb, 3, none⟩ (.int .i64 B)).setCell ⟨eb, 4, none⟩ (.int .i64 x)).setCell ⟨b, 45 + B, none⟩ (.int .i64 (wrap64 (x + y)))).setCell ⟨b, 1 + k * 6 + 2 + A, none⟩ (.int .i64 x)) w' := by
  have hA4 : (A : Int) < 4 := by omega
  have hB4 : (B : Int) < 4 := by omega
  have hC4 : (C : Int) < 4 := by omega
  have l1 := cell_lt h1
  have l3 := cell_lt h3
  go_enter Tryz.func95, Tryz.ntmps95
  go_wp2_with fail
  generalize hV : World.alloc w _ = V
  have hB : Below w.heap.size w V := by rw [← hV]; exact below_box _ _
  have hN : V.heap[w.heap.size]? = some (insO 19 A B C) := by rw [← hV]; exact heap_alloc_new _ _
  obtain ⟨n0, n1, n2, n3⟩ := cells4 hN
  have d1 : V.cell? ⟨b, 45 + B, none⟩ = some (.int .i64 x) := (hB.cell (p := ⟨b, 45 + B, none⟩) l1).trans h1
  have d3 : V.cell? ⟨eb, 3, none⟩ = some (.int .i64 o3) := (hB.cell (p := ⟨eb, 3, none⟩) l3).trans h3
  have d4 : V.cell? ⟨eb, 4, none⟩ = some (.int .i64 o4) := (hB.cell (p := ⟨eb, 4, none⟩) l3).trans h4
  have dg : ∀ i, V.frozen? ⟨eb, i, none⟩ = false := fun i => (hB.frozen (p := ⟨eb, i, none⟩) l3).trans (hg i)
  have HB := Lib.hid hB
  have H2 := Lib.hid ((hB.cell (p := ⟨b, 1 + k * 6 + 2 + A, none⟩) l1).trans h2)
  have H5 := Lib.hid ((hB.cell (p := ⟨b, 1 + k * 6 + 2 + C, none⟩) l1).trans h5)
  have HF := Lib.hid (fun i => (hB.frozen (p := ⟨b, i, none⟩) l1).trans (hf i))
  clear hV hB hN h1 h2 h3 h4 h5 hf hg
  go_wp2_with fail
  go_region
  have Hl : w.heap.size ≠ eb := by omega
  have Hlb : w.heap.size ≠ b := by omega
  generalize hU : World.drew _ = U
  have e1 : U.cell? ⟨w.heap.size, 2, none⟩ = some (.int .i64 B) := by rw [← hU]; exact (cell_two Hl).trans n2
  have e2 : U.cell? ⟨w.heap.size, 3, none⟩ = some (.int .i64 C) := by rw [← hU]; exact (cell_two Hl).trans n3
  have e3 : U.cell? ⟨b, 45 + B, none⟩ = some (.int .i64 x) := by rw [← hU]; exact (cell_two hne).trans d1
  have e4 : U.cell? ⟨b, 1 + k * 6 + 2 + C, none⟩ = some (.int .i64 y) := by rw [← hU]; exact (cell_two hne).trans H5.out
  have ef : ∀ j, U.frozen? ⟨b, j, none⟩ = false := fun j => by rw [← hU]; simpa using HF.out _
  have E5 := Lib.hid (show U.cell? ⟨eb, 4, none⟩ = some (.int .i64 x) by rw [← hU]; exact cell_last d4 (by omega))
  have E6 := Lib.hid (show U.cell? ⟨w.heap.size, 1, none⟩ = some (.int .i64 A) by rw [← hU]; exact (cell_two Hl).trans n1)
  have E7 := Lib.hid (show U.cell? ⟨b, 1 + k * 6 + 2 + A, none⟩ = some (.int .i64 v) by rw [← hU]; exact (cell_two hne).trans H2.out)
  have HU := Lib.hid hU
  clear hU n0 n1 n2 n3 d1 d3 d4 dg
  go_wp2_with fail
  go_region
  generalize hX : World.drew _ = X
  have x1 : X.cell? ⟨w.heap.size, 1, none⟩ = some (.int .i64 A) := by rw [← hX]; exact (cell_off Hlb).trans E6.out
  have x2 : X.cell? ⟨eb, 4, none⟩ = some (.int .i64 x) := by rw [← hX]; exact (cell_off hne.symm).trans E5.out
  have x3 : X.cell? ⟨b, 1 + k * 6 + 2 + A, none⟩ = some (.int .i64 v) := by rw [← hX]; exact (cell_ne (by omega)).trans E7.out
  have xf : ∀ j, X.frozen? ⟨b, j, none⟩ = false := fun j => by rw [← hX]; simpa using ef j
  have HX := Lib.hid hX
  clear hX e1 e2 e3 e4 ef
  go_wp2_with fail
  go_region
  go_wp2
  first | go_end0 | refine bodyPost_ret (results_none rfl _ _ _) rfl ?_
  refine ⟨rfl, ?_⟩
  rw [← HX.out, ← HU.out]
  exact (below_both (below_both (below_both (below_both HB.out _ _) _ _).drew _ _).drew _ _).drew
theorem do_1 (b eb : Nat) (t : Addr) (x y z : Int) (w : World) (F : World → World) (hF : ∀ B u v, Below B u v → Below B (F u) (F v))
    (hc : ∀ u, Below w.heap.size w u → Calls Tryz.prog 93 #[.pointer (some t), insV 1 x y z] u fun e u' => e = .returned (.tuple #[]) ∧ Below u.heap.size (F u) u') :
    Calls Tryz.prog 74 #[.pointer (some ⟨b, 0, none⟩), .pointer (some t), insV 1 x y z, .pointer (some ⟨eb, 0, none⟩)] w fun e w' => e = .returned (.bool true) ∧ Below w.heap.size (F w) w' := by
  have HC := Lib.hid hc
  have HF := Lib.hid hF
  clear hc hF
  go_enter Tryz.func74, Tryz.ntmps74
  go_wp2_with (first
    | (go_at_call 93; refine (HC.out _ (below_box _ _)).mono ?_; rintro e u ⟨rfl, hu⟩))
  go_ret
  exact ⟨rfl, (HF.out _ _ _ (below_box _ _)).trans (hu.mono (below_box _ _).size)⟩
theorem do_2 (b eb : Nat) (t : Addr) (x y z : Int) (w : World) (F : World → World) (hF : ∀ B u v, Below B u v → Below B (F u) (F v))
    (hc : ∀ u, Below w.heap.size w u → Calls Tryz.prog 93 #[.pointer (some t), insV 2 x y z] u fun e u' => e = .returned (.tuple #[]) ∧ Below u.heap.size (F u) u') :
    Calls Tryz.prog 74 #[.pointer (some ⟨b, 0, none⟩), .pointer (some t), insV 2 x y z, .pointer (some ⟨eb, 0, none⟩)] w fun e w' => e = .returned (.bool true) ∧ Below w.heap.size (F w) w' := by
  have HC := Lib.hid hc
  have HF := Lib.hid hF
  clear hc hF
  go_enter Tryz.func74, Tryz.ntmps74
  go_wp2_with (first
    | (go_at_call 93; refine (HC.out _ (below_box _ _)).mono ?_; rintro e u ⟨rfl, hu⟩))
  go_ret
  exact ⟨rfl, (HF.out _ _ _ (below_box _ _)).trans (hu.mono (below_box _ _).size)⟩
theorem do_3 (b eb : Nat) (t : Addr) (x y z : Int) (w : World) (F : World → World) (hF : ∀ B u v, Below B u v → Below B (F u) (F v))
    (hc : ∀ u, Below w.heap.size w u → Calls Tryz.prog 93 #[.pointer (some t), insV 3 x y z] u fun e u' => e = .returned (.tuple #[]) ∧ Below u.heap.size (F u) u') :
    Calls Tryz.prog 74 #[.pointer (some ⟨b, 0, none⟩), .pointer (some t), insV 3 x y z, .pointer (some ⟨eb, 0, none⟩)] w fun e w' => e = .returned (.bool true) ∧ Below w.heap.size (F w) w' := by
  have HC := Lib.hid hc
  have HF := Lib.hid hF
  clear hc hF
  go_enter Tryz.func74, Tryz.ntmps74
  go_wp2_with (first
    | (go_at_call 93; refine (HC.out _ (below_box _ _)).mono ?_; rintro e u ⟨rfl, hu⟩))
  go_ret
  exact ⟨rfl, (HF.out _ _ _ (below_box _ _)).trans (hu.mono (below_box _ _).size)⟩
theorem do_4 (b eb : Nat) (t : Addr) (x y z : Int) (w : World) (F : World → World) (hF : ∀ B u v, Below B u v → Below B (F u) (F v))
    (hc : ∀ u, Below w.heap.size w u → Calls Tryz.prog 93 #[.pointer (some t), insV 4 x y z] u fun e u' => e = .returned (.tuple #[]) ∧ Below u.heap.size (F u) u') :
    Calls Tryz.prog 74 #[.pointer (some ⟨b, 0, none⟩), .pointer (some t), insV 4 x y z, .pointer (some ⟨eb, 0, none⟩)] w fun e w' => e = .returned (.bool true) ∧ Below w.heap.size (F w) w' := by
  have HC := Lib.hid hc
  have HF := Lib.hid hF
  clear hc hF
  go_enter Tryz.func74, Tryz.ntmps74
  go_wp2_with (first
    | (go_at_call 93; refine (HC.out _ (below_box _ _)).mono ?_; rintro e u ⟨rfl, hu⟩))
  go_ret
  exact ⟨rfl, (HF.out _ _ _ (below_box _ _)).trans (hu.mono (below_box _ _).size)⟩
theorem do_5 (b eb : Nat) (t : Addr) (x y z : Int) (w : World) (F : World → World) (hF : ∀ B u v, Below B u v → Below B (F u) (F v))
    (hc : ∀ u, Below w.heap.size w u → Calls Tryz.prog 93 #[.pointer (some t), insV 5 x y z] u fun e u' => e = .returned (.tuple #[]) ∧ Below u.heap.size (F u) u') :
    Calls Tryz.prog 74 #[.pointer (some ⟨b, 0, none⟩), .pointer (some t), insV 5 x y z, .pointer (some ⟨eb, 0, none⟩)] w fun e w' => e = .returned (.bool true) ∧ Below w.heap.size (F w) w' := by
  have HC := Lib.hid hc
  have HF := Lib.hid hF
  clear hc hF
  go_enter Tryz.func74, Tryz.ntmps74
  go_wp2_with (first
    | (go_at_call 93; refine (HC.out _ (below_box _ _)).mono ?_; rintro e u ⟨rfl, hu⟩))
  go_ret
  exact ⟨rfl, (HF.out _ _ _ (below_box _ _)).trans (hu.mono (below_box _ _).size)⟩
theorem do_6 (b eb : Nat) (t : Addr) (x y z : Int) (w : World) (F : World → World) (hF : ∀ B u v, Below B u v → Below B (F u) (F v))
    (hc : ∀ u, Below w.heap.size w u → Calls Tryz.prog 93 #[.pointer (some t), insV 6 x y z] u fun e u' => e = .returned (.tuple #[]) ∧ Below u.heap.size (F u) u') :
    Calls Tryz.prog 74 #[.pointer (some ⟨b, 0, none⟩), .pointer (some t), insV 6 x y z, .pointer (some ⟨eb, 0, none⟩)] w fun e w' => e = .returned (.bool true) ∧ Below w.heap.size (F w) w' := by
  have HC := Lib.hid hc
  have HF := Lib.hid hF
  clear hc hF
  go_enter Tryz.func74, Tryz.ntmps74
  go_wp2_with (first
    | (go_at_call 93; refine (HC.out _ (below_box _ _)).mono ?_; rintro e u ⟨rfl, hu⟩))
  go_ret
  exact ⟨rfl, (HF.out _ _ _ (below_box _ _)).trans (hu.mono (below_box _ _).size)⟩
theorem do_10 (b eb : Nat) (t : Addr) (x y z : Int) (w : World) (F : World → World) (hF : ∀ B u v, Below B u v → Below B (F u) (F v))
    (hc : ∀ u, Below w.heap.size w u → Calls Tryz.prog 94 #[.pointer (some t), insV 10 x y z] u fun e u' => e = .returned (.tuple #[]) ∧ Below u.heap.size (F u) u') :
    Calls Tryz.prog 74 #[.pointer (some ⟨b, 0, none⟩), .pointer (some t), insV 10 x y z, .pointer (some ⟨eb, 0, none⟩)] w fun e w' => e = .returned (.bool true) ∧ Below w.heap.size (F w) w' := by
  have HC := Lib.hid hc
  have HF := Lib.hid hF
  clear hc hF
  go_enter Tryz.func74, Tryz.ntmps74
  go_wp2_with (first
    | (go_at_call 94; refine (HC.out _ (below_box _ _)).mono ?_; rintro e u ⟨rfl, hu⟩))
  go_ret
  exact ⟨rfl, (HF.out _ _ _ (below_box _ _)).trans (hu.mono (below_box _ _).size)⟩
theorem do_11 (b eb : Nat) (t : Addr) (x y z : Int) (w : World) (F : World → World) (hF : ∀ B u v, Below B u v → Below B (F u) (F v))
    (hc : ∀ u, Below w.heap.size w u → Calls Tryz.prog 94 #[.pointer (some t), insV 11 x y z] u fun e u' => e = .returned (.tuple #[]) ∧ Below u.heap.size (F u) u') :
    Calls Tryz.prog 74 #[.pointer (some ⟨b, 0, none⟩), .pointer (some t), insV 11 x y z, .pointer (some ⟨eb, 0, none⟩)] w fun e w' => e = .returned (.bool true) ∧ Below w.heap.size (F w) w' := by
  have HC := Lib.hid hc
  have HF := Lib.hid hF
  clear hc hF
  go_enter Tryz.func74, Tryz.ntmps74
  go_wp2_with (first
    | (go_at_call 94; refine (HC.out _ (below_box _ _)).mono ?_; rintro e u ⟨rfl, hu⟩))
  go_ret
  exact ⟨rfl, (HF.out _ _ _ (below_box _ _)).trans (hu.mono (below_box _ _).size)⟩
theorem do_7 (b eb : Nat) (t : Addr) (x y z : Int) (w : World) (F : World → World) (hF : ∀ B u v, Below B u v → Below B (F u) (F v))
    (hc : ∀ u, Below w.heap.size w u → Calls Tryz.prog 95 #[.pointer (some ⟨b, 0, none⟩), .pointer (some t), insV 7 x y z, .pointer (some ⟨eb, 0, none⟩)] u fun e u' => e = .returned (.tuple #[]) ∧ Below u.heap.size (F u) u') :
    Calls Tryz.prog 74 #[.pointer (some ⟨b, 0, none⟩), .pointer (some t), insV 7 x y z, .pointer (some ⟨eb, 0, none⟩)] w fun e w' => e = .returned (.bool true) ∧ Below w.heap.size (F w) w' := by
  have HC := Lib.hid hc
  have HF := Lib.hid hF
  clear hc hF
  go_enter Tryz.func74, Tryz.ntmps74
  go_wp2_with (first
    | (go_at_call 95; refine (HC.out _ (below_box _ _)).mono ?_; rintro e u ⟨rfl, hu⟩))
  go_ret
  exact ⟨rfl, (HF.out _ _ _ (below_box _ _)).trans (hu.mono (below_box _ _).size)⟩
theorem do_8 (b eb : Nat) (t : Addr) (x y z : Int) (w : World) (F : World → World) (hF : ∀ B u v, Below B u v → Below B (F u) (F v))
    (hc : ∀ u, Below w.heap.size w u → Calls Tryz.prog 95 #[.pointer (some ⟨b, 0, none⟩), .pointer (some t), insV 8 x y z, .pointer (some ⟨eb, 0, none⟩)] u fun e u' => e = .returned (.tuple #[]) ∧ Below u.heap.size (F u) u') :
    Calls Tryz.prog 74 #[.pointer (some ⟨b, 0, none⟩), .pointer (some t), insV 8 x y z, .pointer (some ⟨eb, 0, none⟩)] w fun e w' => e = .returned (.bool true) ∧ Below w.heap.size (F w) w' := by
  have HC := Lib.hid hc
  have HF := Lib.hid hF
  clear hc hF
  go_enter Tryz.func74, Tryz.ntmps74
  go_wp2_with (first
    | (go_at_call 95; refine (HC.out _ (below_box _ _)).mono ?_; rintro e u ⟨rfl, hu⟩))
  go_ret
  exact ⟨rfl, (HF.out _ _ _ (below_box _ _)).trans (hu.mono (below_box _ _).size)⟩
theorem do_17 (b eb : Nat) (t : Addr) (x y z : Int) (w : World) (F : World → World) (hF : ∀ B u v, Below B u v → Below B (F u) (F v))
    (hc : ∀ u, Below w.heap.size w u → Calls Tryz.prog 95 #[.pointer (some ⟨b, 0, none⟩), .pointer (some t), insV 17 x y z, .pointer (some ⟨eb, 0, none⟩)] u fun e u' => e = .returned (.tuple #[]) ∧ Below u.heap.size (F u) u') :
    Calls Tryz.prog 74 #[.pointer (some ⟨b, 0, none⟩), .pointer (some t), insV 17 x y z, .pointer (some ⟨eb, 0, none⟩)] w fun e w' => e = .returned (.bool true) ∧ Below w.heap.size (F w) w' := by
  have HC := Lib.hid hc
  have HF := Lib.hid hF
  clear hc hF
  go_enter Tryz.func74, Tryz.ntmps74
  go_wp2_with (first
    | (go_at_call 95; refine (HC.out _ (below_box _ _)).mono ?_; rintro e u ⟨rfl, hu⟩))
  go_ret
  exact ⟨rfl, (HF.out _ _ _ (below_box _ _)).trans (hu.mono (below_box _ _).size)⟩
theorem do_18 (b eb : Nat) (t : Addr) (x y z : Int) (w : World) (F : World → World) (hF : ∀ B u v, Below B u v → Below B (F u) (F v))
    (hc : ∀ u, Below w.heap.size w u → Calls Tryz.prog 95 #[.pointer (some ⟨b, 0, none⟩), .pointer (some t), insV 18 x y z, .pointer (some ⟨eb, 0, none⟩)] u fun e u' => e = .returned (.tuple #[]) ∧ Below u.heap.size (F u) u') :
    Calls Tryz.prog 74 #[.pointer (some ⟨b, 0, none⟩), .pointer (some t), insV 18 x y z, .pointer (some ⟨eb, 0, none⟩)] w fun e w' => e = .returned (.bool true) ∧ Below w.heap.size (F w) w' := by
  have HC := Lib.hid hc
  have HF := Lib.hid hF
  clear hc hF
  go_enter Tryz.func74, Tryz.ntmps74
  go_wp2_with (first
    | (go_at_call 95; refine (HC.out _ (below_box _ _)).mono ?_; rintro e u ⟨rfl, hu⟩))
  go_ret
  exact ⟨rfl, (HF.out _ _ _ (below_box _ _)).trans (hu.mono (below_box _ _).size)⟩
theorem do_19 (b eb : Nat) (t : Addr) (x y z : Int) (w : World) (F : World → World) (hF : ∀ B u v, Below B u v → Below B (F u) (F v))
    (hc : ∀ u, Below w.heap.size w u → Calls Tryz.prog 95 #[.pointer (some ⟨b, 0, none⟩), .pointer (some t), insV 19 x y z, .pointer (some ⟨eb, 0, none⟩)] u fun e u' => e = .returned (.tuple #[]) ∧ Below u.heap.size (F u) u') :
    Calls Tryz.prog 74 #[.pointer (some ⟨b, 0, none⟩), .pointer (some t), insV 19 x y z, .pointer (some ⟨eb, 0, none⟩)] w fun e w' => e = .returned (.bool true) ∧ Below w.heap.size (F w) w' := by
  have HC := Lib.hid hc
  have HF := Lib.hid hF
  clear hc hF
  go_enter Tryz.func74, Tryz.ntmps74
  go_wp2_with (first
    | (go_at_call 95; refine (HC.out _ (below_box _ _)).mono ?_; rintro e u ⟨rfl, hu⟩))
  go_ret
  exact ⟨rfl, (HF.out _ _ _ (below_box _ _)).trans (hu.mono (below_box _ _).size)⟩
theorem do_20 (b eb : Nat) (t : Addr) (x y z : Int) (w : World) (F : World → World) (hF : ∀ B u v, Below B u v → Below B (F u) (F v)) (r : Bool)
    (hc : ∀ u, Below w.heap.size w u → Calls Tryz.prog 98 #[.pointer (some ⟨b, 0, none⟩), .pointer (some t), insV 20 x y z, .pointer (some ⟨eb, 0, none⟩)] u fun e u' => e = .returned (.bool r) ∧ Below u.heap.size (F u) u') :
    Calls Tryz.prog 74 #[.pointer (some ⟨b, 0, none⟩), .pointer (some t), insV 20 x y z, .pointer (some ⟨eb, 0, none⟩)] w fun e w' => e = .returned (.bool r) ∧ Below w.heap.size (F w) w' := by
  have HC := Lib.hid hc
  have HF := Lib.hid hF
  clear hc hF
  go_enter Tryz.func74, Tryz.ntmps74
  go_wp2_with (first
    | (go_at_call 98; refine (HC.out _ (below_box _ _)).mono ?_; rintro e u ⟨rfl, hu⟩))
  go_ret
  exact ⟨rfl, (HF.out _ _ _ (below_box _ _)).trans (hu.mono (below_box _ _).size)⟩
theorem do_21 (b eb : Nat) (t : Addr) (x y z : Int) (w : World) (F : World → World) (hF : ∀ B u v, Below B u v → Below B (F u) (F v)) (r : Bool)
    (hc : ∀ u, Below w.heap.size w u → Calls Tryz.prog 98 #[.pointer (some ⟨b, 0, none⟩), .pointer (some t), insV 21 x y z, .pointer (some ⟨eb, 0, none⟩)] u fun e u' => e = .returned (.bool r) ∧ Below u.heap.size (F u) u') :
    Calls Tryz.prog 74 #[.pointer (some ⟨b, 0, none⟩), .pointer (some t), insV 21 x y z, .pointer (some ⟨eb, 0, none⟩)] w fun e w' => e = .returned (.bool r) ∧ Below w.heap.size (F w) w' := by
  have HC := Lib.hid hc
  have HF := Lib.hid hF
  clear hc hF
  go_enter Tryz.func74, Tryz.ntmps74
  go_wp2_with (first
    | (go_at_call 98; refine (HC.out _ (below_box _ _)).mono ?_; rintro e u ⟨rfl, hu⟩))
  go_ret
  exact ⟨rfl, (HF.out _ _ _ (below_box _ _)).trans (hu.mono (below_box _ _).size)⟩
theorem do_22 (b eb : Nat) (t : Addr) (x y z : Int) (w : World) (F : World → World) (hF : ∀ B u v, Below B u v → Below B (F u) (F v)) (r : Bool)
    (hc : ∀ u, Below w.heap.size w u → Calls Tryz.prog 98 #[.pointer (some ⟨b, 0, none⟩), .pointer (some t), insV 22 x y z, .pointer (some ⟨eb, 0, none⟩)] u fun e u' => e = .returned (.bool r) ∧ Below u.heap.size (F u) u') :
    Calls Tryz.prog 74 #[.pointer (some ⟨b, 0, none⟩), .pointer (some t), insV 22 x y z, .pointer (some ⟨eb, 0, none⟩)] w fun e w' => e = .returned (.bool r) ∧ Below w.heap.size (F w) w' := by
  have HC := Lib.hid hc
  have HF := Lib.hid hF
  clear hc hF
  go_enter Tryz.func74, Tryz.ntmps74
  go_wp2_with (first
    | (go_at_call 98; refine (HC.out _ (below_box _ _)).mono ?_; rintro e u ⟨rfl, hu⟩))
  go_ret
  exact ⟨rfl, (HF.out _ _ _ (below_box _ _)).trans (hu.mono (below_box _ _).size)⟩
theorem do_23 (b eb : Nat) (t : Addr) (x y z : Int) (w : World) (F : World → World) (hF : ∀ B u v, Below B u v → Below B (F u) (F v)) (r : Bool)
    (hc : ∀ u, Below w.heap.size w u → Calls Tryz.prog 98 #[.pointer (some ⟨b, 0, none⟩), .pointer (some t), insV 23 x y z, .pointer (some ⟨eb, 0, none⟩)] u fun e u' => e = .returned (.bool r) ∧ Below u.heap.size (F u) u') :
    Calls Tryz.prog 74 #[.pointer (some ⟨b, 0, none⟩), .pointer (some t), insV 23 x y z, .pointer (some ⟨eb, 0, none⟩)] w fun e w' => e = .returned (.bool r) ∧ Below w.heap.size (F w) w' := by
  have HC := Lib.hid hc
  have HF := Lib.hid hF
  clear hc hF
  go_enter Tryz.func74, Tryz.ntmps74
  go_wp2_with (first
    | (go_at_call 98; refine (HC.out _ (below_box _ _)).mono ?_; rintro e u ⟨rfl, hu⟩))
  go_ret
  exact ⟨rfl, (HF.out _ _ _ (below_box _ _)).trans (hu.mono (below_box _ _).size)⟩
end Go.Proofs.YtglafbajbiengaaGreat
