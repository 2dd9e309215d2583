/- What reads or writes a variable or an atom. -/
import Derived.Test.YtfcfdneganknjaaStateThings2
namespace Go.Proofs.Ytfcfdneganknjaa
set_option linter.unusedVariables false
set_option linter.unusedSimpArgs false
set_option maxRecDepth 100000
open Go.ChangeShapes Go.WideShapes Go.ChangeAt Go.RowKit

theorem cell_off {V : World} {c d i j : Nat} {x : Value} (h : d ≠ c) : (V.setCell ⟨c, i, none⟩ x).cell? ⟨d, j, none⟩ = V.cell? ⟨d, j, none⟩ := World.cell?_setCell_other _ _ _ _ (by intro e; exact h (by simpa using (congrArg Addr.block e).symm))
theorem cell_ne {V : World} {c i j : Nat} {x : Value} (h : j ≠ i) : (V.setCell ⟨c, i, none⟩ x).cell? ⟨c, j, none⟩ = V.cell? ⟨c, j, none⟩ := World.cell?_setCell_other _ _ _ _ (by intro e; exact h (by simpa using (congrArg Addr.off e).symm))
theorem cell_is {V : World} {c i : Nat} {x y : Value} (h : V.cell? ⟨c, i, none⟩ = some y) : (V.setCell ⟨c, i, none⟩ x).cell? ⟨c, i, none⟩ = some x := by
  simp only [World.setCell, World.cell?, Array.getElem?_modify, if_pos] at h ⊢
  cases hq : V.heap[c]? with
  | none => simp [hq] at h
  | some o =>
    cases o with
    | cells cs t fr =>
      simp only [hq] at h
      have hi : i < cs.size := by
        rcases Nat.lt_or_ge i cs.size with h' | h'
        · exact h'
        · simp [Array.getElem?_eq_none h'] at h
      simp [hq, hi]
    | _ => simp [hq] at h
theorem cell_two {V : World} {c d i i2 j : Nat} {x y : Value} (h : d ≠ c) : ((V.setCell ⟨c, i, none⟩ x).setCell ⟨c, i2, none⟩ y).drew.cell? ⟨d, j, none⟩ = V.cell? ⟨d, j, none⟩ := (cell_off (V := V.setCell ⟨c, i, none⟩ x) h).trans (cell_off h)
theorem cell_last {V : World} {c i i2 : Nat} {x y z : Value} (h : V.cell? ⟨c, i2, none⟩ = some z) (hi : i2 ≠ i) : ((V.setCell ⟨c, i, none⟩ x).setCell ⟨c, i2, none⟩ y).drew.cell? ⟨c, i2, none⟩ = some y := cell_is (V := V.setCell ⟨c, i, none⟩ x) ((cell_ne hi).trans h)

set_option maxHeartbeats 1000000 in
theorem touch_load (b eb k A B : Nat) (z : Int) (hA : A < 4) (hB : B < 8) (x v o3 o4 : Int) (w : World) (h1 : w.cell? ⟨b, 37 + B, none⟩ = some (.int .i64 x)) (h2 : w.cell? ⟨b, 1 + k * 6 + 2 + A, none⟩ = some (.int .i64 v)) (hf : ∀ i, w.frozen? ⟨b, i, none⟩ = false)
    (h3 : w.cell? ⟨eb, 3, none⟩ = some (.int .i64 o3)) (h4 : w.cell? ⟨eb, 4, none⟩ = some (.int .i64 o4)) (hg : ∀ i, w.frozen? ⟨eb, i, none⟩ = false) (hne : b ≠ eb) :
    Calls Try.prog 72 #[.pointer (some ⟨b, 0, none⟩), .pointer (some ⟨b, 1 + k * 6, none⟩), insV 7 A B z, .pointer (some ⟨eb, 0, none⟩)] w fun e w' => e = .returned (.tuple #[]) ∧ Below w.heap.size (((w.setCell ⟨eb, 3, none⟩ (.int .i64 B)).setCell ⟨eb, 4, none⟩ (.int .i64 x)).setCell ⟨b, 1 + k * 6 + 2 + A, none⟩ (.int .i64 x)) w' := by
  have hA4 : (A : Int) < 4 := by omega
  have hB4 : (B : Int) < 8 := by omega
  have l1 := cell_lt h1
  have l3 := cell_lt h3
  go_enter Try.func72, Try.ntmps72
  go_wp2_with fail
  generalize hV : World.alloc w _ = V
  have hB : Below w.heap.size w V := by rw [← hV]; exact below_box _ _
  have hN : V.heap[w.heap.size]? = some (insO 7 A B z) := by rw [← hV]; exact heap_alloc_new _ _
  obtain ⟨n0, n1, n2, n3⟩ := cells4 hN
  have d1 : V.cell? ⟨b, 37 + B, none⟩ = some (.int .i64 x) := (hB.cell (p := ⟨b, 37 + B, none⟩) l1).trans h1
  have d3 : V.cell? ⟨eb, 3, none⟩ = some (.int .i64 o3) := (hB.cell (p := ⟨eb, 3, none⟩) l3).trans h3
  have d4 : V.cell? ⟨eb, 4, none⟩ = some (.int .i64 o4) := (hB.cell (p := ⟨eb, 4, none⟩) l3).trans h4
  have dg : ∀ i, V.frozen? ⟨eb, i, none⟩ = false := fun i => (hB.frozen (p := ⟨eb, i, none⟩) l3).trans (hg i)
  have HB := Lib.hid hB
  have H2 := Lib.hid ((hB.cell (p := ⟨b, 1 + k * 6 + 2 + A, none⟩) l1).trans h2)
  have HF := Lib.hid (fun i => (hB.frozen (p := ⟨b, i, none⟩) l1).trans (hf i))
  clear hV hB hN h1 h2 h3 h4 hf hg
  go_wp2_with fail
  go_region
  have Hl : w.heap.size ≠ eb := by omega
  generalize hU : World.drew _ = U
  have e1 : U.cell? ⟨w.heap.size, 1, none⟩ = some (.int .i64 A) := by rw [← hU]; exact (cell_two Hl).trans n1
  have e2 : U.cell? ⟨b, 1 + k * 6 + 2 + A, none⟩ = some (.int .i64 v) := by rw [← hU]; exact (cell_two hne).trans H2.out
  have e3 : U.cell? ⟨eb, 4, none⟩ = some (.int .i64 x) := by rw [← hU]; exact cell_last d4 (by omega)
  have ef : U.frozen? ⟨b, 1 + k * 6 + 2 + A, none⟩ = false := by rw [← hU]; simpa using HF.out _
  have HU := Lib.hid hU
  clear hU n0 n1 n2 n3 d1 d3 d4 dg
  go_wp2_with fail
  go_region
  go_wp2
  first | go_end0 | refine bodyPost_ret (results_none rfl _ _ _) rfl ?_
  refine ⟨rfl, ?_⟩
  rw [← HU.out]
  exact (below_both (below_both (below_both HB.out _ _) _ _).drew _ _).drew
set_option maxHeartbeats 1000000 in
theorem touch_store (b eb k A B : Nat) (z : Int) (hA : A < 8) (hB : B < 4) (x v o3 o4 : Int) (w : World) (h1 : w.cell? ⟨b, 1 + k * 6 + 2 + B, none⟩ = some (.int .i64 x)) (h2 : w.cell? ⟨b, 37 + A, none⟩ = some (.int .i64 v)) (hf : ∀ i, w.frozen? ⟨b, i, none⟩ = false)
    (h3 : w.cell? ⟨eb, 3, none⟩ = some (.int .i64 o3)) (h4 : w.cell? ⟨eb, 4, none⟩ = some (.int .i64 o4)) (hg : ∀ i, w.frozen? ⟨eb, i, none⟩ = false) (hne : b ≠ eb) :
    Calls Try.prog 72 #[.pointer (some ⟨b, 0, none⟩), .pointer (some ⟨b, 1 + k * 6, none⟩), insV 8 A B z, .pointer (some ⟨eb, 0, none⟩)] w fun e w' => e = .returned (.tuple #[]) ∧ Below w.heap.size (((w.setCell ⟨eb, 3, none⟩ (.int .i64 A)).setCell ⟨eb, 4, none⟩ (.int .i64 x)).setCell ⟨b, 37 + A, none⟩ (.int .i64 x)) w' := by
  have hA4 : (A : Int) < 8 := by omega
  have hB4 : (B : Int) < 4 := by omega
  have l1 := cell_lt h1
  have l3 := cell_lt h3
  go_enter Try.func72, Try.ntmps72
  go_wp2_with fail
  generalize hV : World.alloc w _ = V
  have hB : Below w.heap.size w V := by rw [← hV]; exact below_box _ _
  have hN : V.heap[w.heap.size]? = some (insO 8 A B z) := by rw [← hV]; exact heap_alloc_new _ _
  obtain ⟨n0, n1, n2, n3⟩ := cells4 hN
  have d1 : V.cell? ⟨b, 1 + k * 6 + 2 + B, none⟩ = some (.int .i64 x) := (hB.cell (p := ⟨b, 1 + k * 6 + 2 + B, none⟩) l1).trans h1
  have d3 : V.cell? ⟨eb, 3, none⟩ = some (.int .i64 o3) := (hB.cell (p := ⟨eb, 3, none⟩) l3).trans h3
  have d4 : V.cell? ⟨eb, 4, none⟩ = some (.int .i64 o4) := (hB.cell (p := ⟨eb, 4, none⟩) l3).trans h4
  have dg : ∀ i, V.frozen? ⟨eb, i, none⟩ = false := fun i => (hB.frozen (p := ⟨eb, i, none⟩) l3).trans (hg i)
  have HB := Lib.hid hB
  have H2 := Lib.hid ((hB.cell (p := ⟨b, 37 + A, none⟩) l1).trans h2)
  have HF := Lib.hid (fun i => (hB.frozen (p := ⟨b, i, none⟩) l1).trans (hf i))
  clear hV hB hN h1 h2 h3 h4 hf hg
  go_wp2_with fail
  go_region
  have Hl : w.heap.size ≠ eb := by omega
  generalize hU : World.drew _ = U
  have e1 : U.cell? ⟨w.heap.size, 1, none⟩ = some (.int .i64 A) := by rw [← hU]; exact (cell_two Hl).trans n1
  have e2 : U.cell? ⟨b, 37 + A, none⟩ = some (.int .i64 v) := by rw [← hU]; exact (cell_two hne).trans H2.out
  have e3 : U.cell? ⟨eb, 4, none⟩ = some (.int .i64 x) := by rw [← hU]; exact cell_last d4 (by omega)
  have ef : U.frozen? ⟨b, 37 + A, none⟩ = false := by rw [← hU]; simpa using HF.out _
  have HU := Lib.hid hU
  clear hU n0 n1 n2 n3 d1 d3 d4 dg
  go_wp2_with fail
  go_region
  go_wp2
  first | go_end0 | refine bodyPost_ret (results_none rfl _ _ _) rfl ?_
  refine ⟨rfl, ?_⟩
  rw [← HU.out]
  exact (below_both (below_both (below_both HB.out _ _) _ _).drew _ _).drew
set_option maxHeartbeats 1000000 in
theorem touch_read (b eb k A B : Nat) (z : Int) (hA : A < 4) (hB : B < 4) (x v o3 o4 : Int) (w : World) (h1 : w.cell? ⟨b, 45 + B, none⟩ = some (.int .i64 x)) (h2 : w.cell? ⟨b, 1 + k * 6 + 2 + A, none⟩ = some (.int .i64 v)) (hf : ∀ i, w.frozen? ⟨b, i, none⟩ = false)
    (h3 : w.cell? ⟨eb, 3, none⟩ = some (.int .i64 o3)) (h4 : w.cell? ⟨eb, 4, none⟩ = some (.int .i64 o4)) (hg : ∀ i, w.frozen? ⟨eb, i, none⟩ = false) (hne : b ≠ eb) :
    Calls Try.prog 72 #[.pointer (some ⟨b, 0, none⟩), .pointer (some ⟨b, 1 + k * 6, none⟩), insV 17 A B z, .pointer (some ⟨eb, 0, none⟩)] w fun e w' => e = .returned (.tuple #[]) ∧ Below w.heap.size (((w.setCell ⟨eb, 3, none⟩ (.int .i64 B)).setCell ⟨eb, 4, none⟩ (.int .i64 x)).setCell ⟨b, 1 + k * 6 + 2 + A, none⟩ (.int .i64 x)) w' := by
  have hA4 : (A : Int) < 4 := by omega
  have hB4 : (B : Int) < 4 := by omega
  have l1 := cell_lt h1
  have l3 := cell_lt h3
  go_enter Try.func72, Try.ntmps72
  go_wp2_with fail
  generalize hV : World.alloc w _ = V
  have hB : Below w.heap.size w V := by rw [← hV]; exact below_box _ _
  have hN : V.heap[w.heap.size]? = some (insO 17 A B z) := by rw [← hV]; exact heap_alloc_new _ _
  obtain ⟨n0, n1, n2, n3⟩ := cells4 hN
  have d1 : V.cell? ⟨b, 45 + B, none⟩ = some (.int .i64 x) := (hB.cell (p := ⟨b, 45 + B, none⟩) l1).trans h1
  have d3 : V.cell? ⟨eb, 3, none⟩ = some (.int .i64 o3) := (hB.cell (p := ⟨eb, 3, none⟩) l3).trans h3
  have d4 : V.cell? ⟨eb, 4, none⟩ = some (.int .i64 o4) := (hB.cell (p := ⟨eb, 4, none⟩) l3).trans h4
  have dg : ∀ i, V.frozen? ⟨eb, i, none⟩ = false := fun i => (hB.frozen (p := ⟨eb, i, none⟩) l3).trans (hg i)
  have HB := Lib.hid hB
  have H2 := Lib.hid ((hB.cell (p := ⟨b, 1 + k * 6 + 2 + A, none⟩) l1).trans h2)
  have HF := Lib.hid (fun i => (hB.frozen (p := ⟨b, i, none⟩) l1).trans (hf i))
  clear hV hB hN h1 h2 h3 h4 hf hg
  go_wp2_with fail
  go_region
  have Hl : w.heap.size ≠ eb := by omega
  generalize hU : World.drew _ = U
  have e1 : U.cell? ⟨w.heap.size, 1, none⟩ = some (.int .i64 A) := by rw [← hU]; exact (cell_two Hl).trans n1
  have e2 : U.cell? ⟨b, 1 + k * 6 + 2 + A, none⟩ = some (.int .i64 v) := by rw [← hU]; exact (cell_two hne).trans H2.out
  have e3 : U.cell? ⟨eb, 4, none⟩ = some (.int .i64 x) := by rw [← hU]; exact cell_last d4 (by omega)
  have ef : U.frozen? ⟨b, 1 + k * 6 + 2 + A, none⟩ = false := by rw [← hU]; simpa using HF.out _
  have HU := Lib.hid hU
  clear hU n0 n1 n2 n3 d1 d3 d4 dg
  go_wp2_with fail
  go_region
  go_wp2
  first | go_end0 | refine bodyPost_ret (results_none rfl _ _ _) rfl ?_
  refine ⟨rfl, ?_⟩
  rw [← HU.out]
  exact (below_both (below_both (below_both HB.out _ _) _ _).drew _ _).drew
set_option maxHeartbeats 1000000 in
theorem touch_write (b eb k A B : Nat) (z : Int) (hA : A < 4) (hB : B < 4) (x v o3 o4 : Int) (w : World) (h1 : w.cell? ⟨b, 1 + k * 6 + 2 + B, none⟩ = some (.int .i64 x)) (h2 : w.cell? ⟨b, 45 + A, none⟩ = some (.int .i64 v)) (hf : ∀ i, w.frozen? ⟨b, i, none⟩ = false)
    (h3 : w.cell? ⟨eb, 3, none⟩ = some (.int .i64 o3)) (h4 : w.cell? ⟨eb, 4, none⟩ = some (.int .i64 o4)) (hg : ∀ i, w.frozen? ⟨eb, i, none⟩ = false) (hne : b ≠ eb) :
    Calls Try.prog 72 #[.pointer (some ⟨b, 0, none⟩), .pointer (some ⟨b, 1 + k * 6, none⟩), insV 18 A B z, .pointer (some ⟨eb, 0, none⟩)] w fun e w' => e = .returned (.tuple #[]) ∧ Below w.heap.size (((w.setCell ⟨eb, 3, none⟩ (.int .i64 A)).setCell ⟨eb, 4, none⟩ (.int .i64 x)).setCell ⟨b, 45 + A, none⟩ (.int .i64 x)) w' := by
  have hA4 : (A : Int) < 4 := by omega
  have hB4 : (B : Int) < 4 := by omega
  have l1 := cell_lt h1
  have l3 := cell_lt h3
  go_enter Try.func72, Try.ntmps72
  go_wp2_with fail
  generalize hV : World.alloc w _ = V
  have hB : Below w.heap.size w V := by rw [← hV]; exact below_box _ _
  have hN : V.heap[w.heap.size]? = some (insO 18 A B z) := by rw [← hV]; exact heap_alloc_new _ _
  obtain ⟨n0, n1, n2, n3⟩ := cells4 hN
  have d1 : V.cell? ⟨b, 1 + k * 6 + 2 + B, none⟩ = some (.int .i64 x) := (hB.cell (p := ⟨b, 1 + k * 6 + 2 + B, none⟩) l1).trans h1
  have d3 : V.cell? ⟨eb, 3, none⟩ = some (.int .i64 o3) := (hB.cell (p := ⟨eb, 3, none⟩) l3).trans h3
  have d4 : V.cell? ⟨eb, 4, none⟩ = some (.int .i64 o4) := (hB.cell (p := ⟨eb, 4, none⟩) l3).trans h4
  have dg : ∀ i, V.frozen? ⟨eb, i, none⟩ = false := fun i => (hB.frozen (p := ⟨eb, i, none⟩) l3).trans (hg i)
  have HB := Lib.hid hB
  have H2 := Lib.hid ((hB.cell (p := ⟨b, 45 + A, none⟩) l1).trans h2)
  have HF := Lib.hid (fun i => (hB.frozen (p := ⟨b, i, none⟩) l1).trans (hf i))
  clear hV hB hN h1 h2 h3 h4 hf hg
  go_wp2_with fail
  go_region
  have Hl : w.heap.size ≠ eb := by omega
  generalize hU : World.drew _ = U
  have e1 : U.cell? ⟨w.heap.size, 1, none⟩ = some (.int .i64 A) := by rw [← hU]; exact (cell_two Hl).trans n1
  have e2 : U.cell? ⟨b, 45 + A, none⟩ = some (.int .i64 v) := by rw [← hU]; exact (cell_two hne).trans H2.out
  have e3 : U.cell? ⟨eb, 4, none⟩ = some (.int .i64 x) := by rw [← hU]; exact cell_last d4 (by omega)
  have ef : U.frozen? ⟨b, 45 + A, none⟩ = false := by rw [← hU]; simpa using HF.out _
  have HU := Lib.hid hU
  clear hU n0 n1 n2 n3 d1 d3 d4 dg
  go_wp2_with fail
  go_region
  go_wp2
  first | go_end0 | refine bodyPost_ret (results_none rfl _ _ _) rfl ?_
  refine ⟨rfl, ?_⟩
  rw [← HU.out]
  exact (below_both (below_both (below_both HB.out _ _) _ _).drew _ _).drew
end Go.Proofs.Ytfcfdneganknjaa
