/- What passes a number by a channel. -/
import Derived.Test.YtfcfdneganknjaaStateTouch
import Derived.Deep.RegionLaw
namespace Go.Proofs.Ytfcfdneganknjaa
set_option linter.unusedVariables false
set_option linter.unusedSimpArgs false
set_option maxRecDepth 100000
open Go.ChangeShapes Go.WideShapes Go.ChangeAt Go.RowKit

/-- Cells of one block are put, one after the other. -/
def putsB (b : Nat) : List (Nat × Value) → World → World
  | [], w => w
  | (i, v) :: l, w => putsB b l (w.setCell ⟨b, i, none⟩ v)
theorem puts_both {B b : Nat} : ∀ (l : List (Nat × Value)) {w v : World}, Below B w v → Below B (putsB b l w) (putsB b l v)
  | [], _, _, h => h
  | (i, x) :: l, _, _, h => puts_both l (below_both h _ _)
theorem puts_size (b : Nat) : ∀ (l : List (Nat × Value)) (w : World), (putsB b l w).heap.size = w.heap.size
  | [], _ => rfl
  | (i, x) :: l, w => by simp [putsB, puts_size b l]
theorem puts_off {b d j : Nat} (h : d ≠ b) : ∀ (l : List (Nat × Value)) (w : World), (putsB b l w).cell? ⟨d, j, none⟩ = w.cell? ⟨d, j, none⟩
  | [], _ => rfl
  | (i, x) :: l, w => (puts_off h l _).trans (cell_off h)
theorem puts_frozen (b : Nat) (a : Addr) : ∀ (l : List (Nat × Value)) (w : World), (putsB b l w).frozen? a = w.frozen? a
  | [], _ => rfl
  | (i, x) :: l, w => (puts_frozen b a l _).trans (by simp)
theorem puts_other {b k : Nat} (h : k ≠ b) : ∀ (l : List (Nat × Value)) (w : World), (putsB b l w).heap[k]? = w.heap[k]?
  | [], _ => rfl
  | (i, x) :: l, w => (puts_other h l _).trans (Below.heap_setCell _ _ _ _ h)

theorem puts_block {b : Nat} : ∀ (l : List (Nat × Value)) {w v : World}, v.heap[b]? = w.heap[b]? → (putsB b l v).heap[b]? = (putsB b l w).heap[b]?
  | [], _, _, h => h
  | (i, x) :: l, w, v, h => puts_block l (by simp only [World.setCell, Array.getElem?_modify, if_pos, h])

/-- What comes out of a channel: the number, how, what is put. -/
def takeL (o j : Nat) (x y z : Int) (t : Bool) : Int × Int × List (Nat × Value) := match j with
  | 0 => (0, if t then 2 else 0, [])
  | 1 => (x, 1, [(o + 3, .int .i64 0)])
  | 2 => (x, 1, [(o, .int .i64 y), (o + 3, .int .i64 1)])
  | _ => (x, 1, [(o, .int .i64 y), (o + 1, .int .i64 z), (o + 3, .int .i64 2)])
theorem take_any (b o j : Nat) (hj : j ≤ 3) (x y z : Int) (t : Bool) (w : World) (h1 : w.cell? ⟨b, o + 3, none⟩ = some (.int .i64 j)) (h2 : w.cell? ⟨b, o, none⟩ = some (.int .i64 x)) (h3 : w.cell? ⟨b, o + 1, none⟩ = some (.int .i64 y)) (h4 : w.cell? ⟨b, o + 2, none⟩ = some (.int .i64 z)) (h5 : w.cell? ⟨b, o + 5, none⟩ = some (.bool t)) (hf : ∀ i, w.frozen? ⟨b, i, none⟩ = false) :
    Calls Try.prog 90 #[.pointer (some ⟨b, o, none⟩)] w fun e w' => e = .returned (.tuple #[.int .i64 (takeL o j x y z t).1, .int .i64 (takeL o j x y z t).2.1]) ∧ Below w.heap.size (putsB b (takeL o j x y z t).2.2 w) w' := by
  match j, hj with
  | 0, _ =>
    cases t
    · exact take_none b o w h1 h5
    · exact take_over b o w h1 h5
  | 1, _ => exact take_1 b o x y z w h1 h2 h3 h4 hf
  | 2, _ => exact take_2 b o x y z w h1 h2 h3 h4 hf
  | 3, _ => exact take_3 b o x y z w h1 h2 h3 h4 hf

set_option maxHeartbeats 1000000 in
theorem pass_recv (b eb k A B : Nat) (z : Int) (hA : A < 4) (hB : B < 4) (n md o3 o4 o5 : Int) (l : List (Nat × Value)) (w : World) (h6 : ∀ r, r < 4 → ∃ v, (putsB b l w).cell? ⟨b, 1 + k * 6 + 2 + r, none⟩ = some (.int .i64 v)) (hf : ∀ i, w.frozen? ⟨b, i, none⟩ = false)
    (h3 : w.cell? ⟨eb, 3, none⟩ = some (.int .i64 o3)) (h4 : w.cell? ⟨eb, 4, none⟩ = some (.int .i64 o4)) (h5 : w.cell? ⟨eb, 5, none⟩ = some (.int .i64 o5)) (hg : ∀ i, w.frozen? ⟨eb, i, none⟩ = false) (hne : b ≠ eb) (lb : b < w.heap.size)
    (ht : ∀ u : World, u.heap[b]? = w.heap[b]? → Calls Try.prog 90 #[.pointer (some ⟨b, 57 + B * 6, none⟩)] u fun e u' => e = .returned (.tuple #[.int .i64 n, .int .i64 md]) ∧ Below u.heap.size (putsB b l u) u') :
    Calls Try.prog 75 #[.pointer (some ⟨b, 0, none⟩), .pointer (some ⟨b, 1 + k * 6, none⟩), insV 21 A B z, .pointer (some ⟨eb, 0, none⟩)] w fun e w' => e = .returned (.bool true) ∧ Below w.heap.size ((((putsB b l (w.setCell ⟨eb, 3, none⟩ (.int .i64 B))).setCell ⟨eb, 4, none⟩ (.int .i64 n)).setCell ⟨eb, 5, none⟩ (.int .i64 md)).setCell ⟨b, 1 + k * 6 + 2 + A, none⟩ (.int .i64 n)) w' := by
  have hA4 : (A : Int) < 4 := by omega
  have hB4 : (B : Int) < 4 := by omega
  have l3 := cell_lt h3
  have HT := Lib.hid ht
  obtain ⟨v, h2⟩ := h6 A hA
  have H6 := Lib.hid h6
  have H2 := Lib.hid h2
  have HF := Lib.hid hf
  go_enter Try.func75, Try.ntmps75
  clear ht h2 hf h6
  have HBe := Lib.hid ((below_box w (insO 21 A B z)).cell (p := ⟨eb, 3, none⟩) l3)
  have d3 : (w.alloc (insO 21 A B z)).cell? ⟨eb, 3, none⟩ = some (.int .i64 o3) := HBe.out.trans h3
  have dg : ∀ i, (w.alloc (insO 21 A B z)).frozen? ⟨eb, i, none⟩ = false := fun i => ((below_box w (insO 21 A B z)).frozen (p := ⟨eb, i, none⟩) l3).trans (hg i)
  go_wp2_with fail
  generalize hV : World.alloc _ _ = V
  have hB1 : Below w.heap.size (w.setCell ⟨eb, 3, none⟩ (.int .i64 B)) V := by
    rw [← hV]
    have hq := below_box (w.setCell ⟨eb, 3, none⟩ (.int .i64 B)) (insO 21 A B z)
    rw [size_setCell] at hq
    exact hq
  have hN : V.heap[w.heap.size]? = some (insO 21 A B z) := by
    rw [← hV]
    have hq := heap_alloc_new (w.setCell ⟨eb, 3, none⟩ (.int .i64 B)) (insO 21 A B z)
    rw [size_setCell] at hq
    exact hq
  obtain ⟨n0, n1, n2, n3⟩ := cells4 hN
  have c4 : V.cell? ⟨eb, 4, none⟩ = some (.int .i64 o4) := (hB1.cell (p := ⟨eb, 4, none⟩) l3).trans ((cell_ne (by omega)).trans h4)
  have c5 : V.cell? ⟨eb, 5, none⟩ = some (.int .i64 o5) := (hB1.cell (p := ⟨eb, 5, none⟩) l3).trans ((cell_ne (by omega)).trans h5)
  have cg : ∀ i, V.frozen? ⟨eb, i, none⟩ = false := fun i => (hB1.frozen (p := ⟨eb, i, none⟩) l3).trans (by simpa using hg i)
  have Hb : Hid (V.heap[b]? = w.heap[b]?) := Lib.hid ((hB1.block b lb).trans (Below.heap_setCell _ _ _ _ hne))
  have H1 := Lib.hid hB1
  clear hV hB1 hN d3 dg h3 h4 h5 hg
  have lV : Hid (eb < V.heap.size ∧ b < V.heap.size ∧ w.heap.size < V.heap.size) := Lib.hid ⟨cell_lt c4, by have := H1.out.size; rw [size_setCell] at this; omega, cell_lt n1⟩
  have Hw : w.heap.size ≠ b := by omega
  have He : w.heap.size ≠ eb := by omega
  go_region_law (first
    | (go_simp; go_at_call 90; refine (HT.out _ (by exact Hb.out)).mono ?_; rintro e u ⟨rfl, hU⟩; have g4 : u.cell? ⟨eb, 4, none⟩ = some (.int .i64 o4) := (hU.cell (p := ⟨eb, 4, none⟩) lV.out.1).trans ((puts_off hne.symm l _).trans c4); have g5 : u.cell? ⟨eb, 5, none⟩ = some (.int .i64 o5) := (hU.cell (p := ⟨eb, 5, none⟩) lV.out.1).trans ((puts_off hne.symm l _).trans c5); have gg : ∀ i, u.frozen? ⟨eb, i, none⟩ = false := fun i => (hU.frozen (p := ⟨eb, i, none⟩) lV.out.1).trans ((puts_frozen b _ l _).trans (cg i))))
  have hu : ∀ j, u.cell? ⟨b, j, none⟩ = (putsB b l w).cell? ⟨b, j, none⟩ := fun j => (hU.cell (p := ⟨b, j, none⟩) lV.out.2.1).trans (World.cell?_of_block (puts_block l (by exact Hb.out)))
  have hi : ∀ j, u.cell? ⟨w.heap.size, j, none⟩ = V.cell? ⟨w.heap.size, j, none⟩ := fun j => (hU.cell (p := ⟨w.heap.size, j, none⟩) lV.out.2.2).trans (puts_off Hw l _)
  have hfu : ∀ j, u.frozen? ⟨b, j, none⟩ = false := fun j => (hU.frozen (p := ⟨b, j, none⟩) lV.out.2.1).trans ((puts_frozen b _ l _).trans ((World.frozen?_of_block (by exact Hb.out)).trans (HF.out j)))
  generalize hT : World.setCell _ _ _ = T
  have e0 : ∀ d j, d ≠ eb → T.cell? ⟨d, j, none⟩ = u.cell? ⟨d, j, none⟩ := fun d j hd => by rw [← hT]; exact (cell_off hd).trans (cell_off hd)
  have e1 : T.cell? ⟨w.heap.size, 1, none⟩ = some (.int .i64 A) := (e0 _ _ He).trans ((hi 1).trans n1)
  have e2 : T.cell? ⟨b, 1 + k * 6 + 2 + A, none⟩ = some (.int .i64 v) := (e0 _ _ hne).trans ((hu _).trans H2.out)
  have e3 : T.cell? ⟨eb, 4, none⟩ = some (.int .i64 n) := by rw [← hT]; exact (cell_ne (by omega)).trans (cell_is g4)
  have ef : ∀ j, T.frozen? ⟨b, j, none⟩ = false := fun j => by rw [← hT]; simpa using hfu j
  have HTT := Lib.hid hT
  have HU := Lib.hid hU
  clear hT hU hu hi hfu e0 n0 n1 n2 n3 c4 c5 cg g4 g5 gg
  go_wp2_with fail
  go_region
  go_wp2
  go_ret
  refine ⟨rfl, ?_⟩
  rw [← HTT.out]
  exact (below_both (below_both (below_both ((puts_both l H1.out.drew).trans (HU.out.mono (by have := lV.out.2.2; exact Nat.le_of_lt this))) _ _) _ _) _ _).drew
set_option maxHeartbeats 1000000 in
theorem pass_poll (b eb k A B C : Nat) (hC : C < 4) (hA : A < 4) (hB : B < 4) (n md o3 o4 o5 : Int) (l : List (Nat × Value)) (w : World) (h6 : ∀ r, r < 4 → ∃ v, (putsB b l w).cell? ⟨b, 1 + k * 6 + 2 + r, none⟩ = some (.int .i64 v)) (hf : ∀ i, w.frozen? ⟨b, i, none⟩ = false)
    (h3 : w.cell? ⟨eb, 3, none⟩ = some (.int .i64 o3)) (h4 : w.cell? ⟨eb, 4, none⟩ = some (.int .i64 o4)) (h5 : w.cell? ⟨eb, 5, none⟩ = some (.int .i64 o5)) (hg : ∀ i, w.frozen? ⟨eb, i, none⟩ = false) (hne : b ≠ eb) (lb : b < w.heap.size)
    (ht : ∀ u : World, u.heap[b]? = w.heap[b]? → Calls Try.prog 90 #[.pointer (some ⟨b, 57 + B * 6, none⟩)] u fun e u' => e = .returned (.tuple #[.int .i64 n, .int .i64 md]) ∧ Below u.heap.size (putsB b l u) u') :
    Calls Try.prog 75 #[.pointer (some ⟨b, 0, none⟩), .pointer (some ⟨b, 1 + k * 6, none⟩), insV 22 A B C, .pointer (some ⟨eb, 0, none⟩)] w fun e w' => e = .returned (.bool true) ∧ Below w.heap.size (((((putsB b l (w.setCell ⟨eb, 3, none⟩ (.int .i64 B))).setCell ⟨eb, 4, none⟩ (.int .i64 n)).setCell ⟨eb, 5, none⟩ (.int .i64 md)).setCell ⟨b, 1 + k * 6 + 2 + A, none⟩ (.int .i64 n)).setCell ⟨b, 1 + k * 6 + 2 + C, none⟩ (.int .i64 (bitN (md == 1)))) w' := by
  have hA4 : (A : Int) < 4 := by omega
  have hB4 : (B : Int) < 4 := by omega
  have hC4 : (C : Int) < 4 := by omega
  have l3 := cell_lt h3
  have HT := Lib.hid ht
  obtain ⟨v, h2⟩ := h6 A hA
  have H6 := Lib.hid h6
  have H2 := Lib.hid h2
  have HF := Lib.hid hf
  go_enter Try.func75, Try.ntmps75
  clear ht h2 hf h6
  have HBe := Lib.hid ((below_box w (insO 22 A B C)).cell (p := ⟨eb, 3, none⟩) l3)
  have d3 : (w.alloc (insO 22 A B C)).cell? ⟨eb, 3, none⟩ = some (.int .i64 o3) := HBe.out.trans h3
  have dg : ∀ i, (w.alloc (insO 22 A B C)).frozen? ⟨eb, i, none⟩ = false := fun i => ((below_box w (insO 22 A B C)).frozen (p := ⟨eb, i, none⟩) l3).trans (hg i)
  go_wp2_with fail
  generalize hV : World.alloc _ _ = V
  have hB1 : Below w.heap.size (w.setCell ⟨eb, 3, none⟩ (.int .i64 B)) V := by
    rw [← hV]
    have hq := below_box (w.setCell ⟨eb, 3, none⟩ (.int .i64 B)) (insO 22 A B C)
    rw [size_setCell] at hq
    exact hq
  have hN : V.heap[w.heap.size]? = some (insO 22 A B C) := by
    rw [← hV]
    have hq := heap_alloc_new (w.setCell ⟨eb, 3, none⟩ (.int .i64 B)) (insO 22 A B C)
    rw [size_setCell] at hq
    exact hq
  obtain ⟨n0, n1, n2, n3⟩ := cells4 hN
  have c4 : V.cell? ⟨eb, 4, none⟩ = some (.int .i64 o4) := (hB1.cell (p := ⟨eb, 4, none⟩) l3).trans ((cell_ne (by omega)).trans h4)
  have c5 : V.cell? ⟨eb, 5, none⟩ = some (.int .i64 o5) := (hB1.cell (p := ⟨eb, 5, none⟩) l3).trans ((cell_ne (by omega)).trans h5)
  have cg : ∀ i, V.frozen? ⟨eb, i, none⟩ = false := fun i => (hB1.frozen (p := ⟨eb, i, none⟩) l3).trans (by simpa using hg i)
  have Hb : Hid (V.heap[b]? = w.heap[b]?) := Lib.hid ((hB1.block b lb).trans (Below.heap_setCell _ _ _ _ hne))
  have H1 := Lib.hid hB1
  clear hV hB1 hN d3 dg h3 h4 h5 hg
  have lV : Hid (eb < V.heap.size ∧ b < V.heap.size ∧ w.heap.size < V.heap.size) := Lib.hid ⟨cell_lt c4, by have := H1.out.size; rw [size_setCell] at this; omega, cell_lt n1⟩
  have Hw : w.heap.size ≠ b := by omega
  have He : w.heap.size ≠ eb := by omega
  go_region_law (first
    | (go_simp; go_at_call 90; refine (HT.out _ (by exact Hb.out)).mono ?_; rintro e u ⟨rfl, hU⟩; have g4 : u.cell? ⟨eb, 4, none⟩ = some (.int .i64 o4) := (hU.cell (p := ⟨eb, 4, none⟩) lV.out.1).trans ((puts_off hne.symm l _).trans c4); have g5 : u.cell? ⟨eb, 5, none⟩ = some (.int .i64 o5) := (hU.cell (p := ⟨eb, 5, none⟩) lV.out.1).trans ((puts_off hne.symm l _).trans c5); have gg : ∀ i, u.frozen? ⟨eb, i, none⟩ = false := fun i => (hU.frozen (p := ⟨eb, i, none⟩) lV.out.1).trans ((puts_frozen b _ l _).trans (cg i))))
  have hu : ∀ j, u.cell? ⟨b, j, none⟩ = (putsB b l w).cell? ⟨b, j, none⟩ := fun j => (hU.cell (p := ⟨b, j, none⟩) lV.out.2.1).trans (World.cell?_of_block (puts_block l (by exact Hb.out)))
  have hi : ∀ j, u.cell? ⟨w.heap.size, j, none⟩ = V.cell? ⟨w.heap.size, j, none⟩ := fun j => (hU.cell (p := ⟨w.heap.size, j, none⟩) lV.out.2.2).trans (puts_off Hw l _)
  have hfu : ∀ j, u.frozen? ⟨b, j, none⟩ = false := fun j => (hU.frozen (p := ⟨b, j, none⟩) lV.out.2.1).trans ((puts_frozen b _ l _).trans ((World.frozen?_of_block (by exact Hb.out)).trans (HF.out j)))
  generalize hT : World.setCell _ _ _ = T
  have e0 : ∀ d j, d ≠ eb → T.cell? ⟨d, j, none⟩ = u.cell? ⟨d, j, none⟩ := fun d j hd => by rw [← hT]; exact (cell_off hd).trans (cell_off hd)
  have e1 : T.cell? ⟨w.heap.size, 1, none⟩ = some (.int .i64 A) := (e0 _ _ He).trans ((hi 1).trans n1)
  have e2 : T.cell? ⟨b, 1 + k * 6 + 2 + A, none⟩ = some (.int .i64 v) := (e0 _ _ hne).trans ((hu _).trans H2.out)
  have e3 : T.cell? ⟨eb, 4, none⟩ = some (.int .i64 n) := by rw [← hT]; exact (cell_ne (by omega)).trans (cell_is g4)
  have e4 : T.cell? ⟨w.heap.size, 3, none⟩ = some (.int .i64 C) := (e0 _ _ He).trans ((hi 3).trans n3)
  have e5 : T.cell? ⟨eb, 5, none⟩ = some (.int .i64 md) := by rw [← hT]; exact cell_is ((cell_ne (by omega)).trans g5)
  obtain ⟨vc, h7⟩ := H6.out C hC
  have E6 := Lib.hid (show T.cell? ⟨b, 1 + k * 6 + 2 + C, none⟩ = some (.int .i64 vc) from (e0 _ _ hne).trans ((hu _).trans h7))
  clear h7
  have ef : ∀ j, T.frozen? ⟨b, j, none⟩ = false := fun j => by rw [← hT]; simpa using hfu j
  have HTT := Lib.hid hT
  have HU := Lib.hid hU
  clear hT hU hu hi hfu e0 n0 n1 n2 n3 c4 c5 cg g4 g5 gg
  go_wp2_with fail
  go_region
  generalize hX : World.drew _ = X
  have x1 : X.cell? ⟨w.heap.size, 3, none⟩ = some (.int .i64 C) := by rw [← hX]; exact (cell_off Hw).trans e4
  have x2 : X.cell? ⟨eb, 5, none⟩ = some (.int .i64 md) := by rw [← hX]; exact (cell_off hne.symm).trans e5
  have x3 : ∃ y, X.cell? ⟨b, 1 + k * 6 + 2 + C, none⟩ = some (.int .i64 y) := by
    rw [← hX]
    by_cases hca : C = A
    · exact ⟨n, by rw [hca]; exact cell_is e2⟩
    · exact ⟨vc, (cell_ne (by omega)).trans E6.out⟩
  have xf : ∀ j, X.frozen? ⟨b, j, none⟩ = false := fun j => by rw [← hX]; simpa using ef j
  obtain ⟨y, x3⟩ := x3
  have HX := Lib.hid hX
  clear hX e1 e2 e3 e4 e5 ef
  go_wp2_with fail
  refine wp_region_still_tail 12 (by kernel_rfl) (by kernel_rfl) ?_
  simp only [List.take_succ_cons, List.take_zero, List.drop_succ_cons, List.drop_zero]
  repeat still_step
  still_call ((number_any _ _).mono fun _ _ ⟨h1, h2⟩ => ⟨h1, h2.symm⟩)
  repeat still_step
  refine wpStill_nil ?_
  go_wp2
  go_ret
  refine ⟨rfl, ?_⟩
  rw [← HX.out]
  rw [← HTT.out]
  exact (below_both (below_both (below_both (below_both ((puts_both l H1.out.drew).trans (HU.out.mono (by have := lV.out.2.2; exact Nat.le_of_lt this))) _ _) _ _) _ _).drew _ _).drew
end Go.Proofs.Ytfcfdneganknjaa
