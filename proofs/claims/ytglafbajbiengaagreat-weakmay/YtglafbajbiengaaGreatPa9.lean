/- What the laws of this seat stand on, part 9. -/
import Derived.Test.YtglafbajbiengaaGreatPa0
import Derived.Test.YtglafbajbiengaaGreatPa8
set_option linter.unusedVariables false
set_option linter.unusedSimpArgs false
set_option maxRecDepth 100000
set_option maxHeartbeats 40000000
namespace Go.Proofs.YtglafbajbiengaaGreat
open Go.ChangeShapes Go.WideShapes Go.ChangeAt Go.RowKit
theorem v_reg {k r : Nat} {n : Int} (hk : k < 6) (hr : r < 4) : valAt (1 + k * 6 + 2 + r) n = .int .i64 n := valAt_i (by simp [isB]; omega) (by omega)
theorem v_pc {k : Nat} {n : Int} (hk : k < 6) : valAt (1 + k * 6 + 1) n = .int .i64 n := valAt_i (by simp [isB]; omega) (by omega)
theorem v_on {k : Nat} {n : Int} (hk : k < 6) : valAt (1 + k * 6) n = .bool (n == 1) := valAt_b (by simp [isB]; omega)
theorem v_var {x : Nat} {n : Int} (h : x < 8) : valAt (37 + x) n = .int .i64 n := valAt_i (by simp [isB]; omega) (by omega)
theorem v_atom {x : Nat} {n : Int} (h : x < 4) : valAt (45 + x) n = .int .i64 n := valAt_i (by simp [isB]; omega) (by omega)
theorem v_locked {x : Nat} {n : Int} (h : x < 4) : valAt (49 + x * 2) n = .bool (n == 1) := valAt_b (by simp [isB]; omega)
theorem v_readers {x : Nat} {n : Int} (h : x < 4) : valAt (49 + x * 2 + 1) n = .int .i64 n := valAt_i (by simp [isB]; omega) (by omega)
theorem v_num {c j : Nat} {n : Int} (h : c < 4) (hj : j < 5) : valAt (57 + c * 6 + j) n = .int .i64 n := valAt_i (by simp [isB]; omega) (by omega)
theorem v_num0 {c : Nat} {n : Int} (h : c < 4) : valAt (57 + c * 6) n = .int .i64 n := valAt_i (by simp [isB]; omega) (by omega)
theorem v_closed {c : Nat} {n : Int} (h : c < 4) : valAt (57 + c * 6 + 5) n = .bool (n == 1) := valAt_b (by simp [isB]; omega)
theorem v_group {x : Nat} {n : Int} (h : x < 4) : valAt (81 + x) n = .int .i64 n := valAt_i (by simp [isB]; omega) (by omega)
theorem v_once {x : Nat} {n : Int} (h : x < 4) : valAt (85 + x) n = .int .u8 n := valAt_o (by omega) (by omega)
theorem ev_cells {u : World} {eb : Nat} {t0 t1 t2 : Value} {ev : Nat → Int} (h : u.heap[eb]? = some (evO t0 t1 t2 ev)) : u.cell? ⟨eb, 3, none⟩ = some (.int .i64 (ev 3)) ∧ u.cell? ⟨eb, 4, none⟩ = some (.int .i64 (ev 4)) ∧ u.cell? ⟨eb, 5, none⟩ = some (.int .i64 (ev 5)) ∧ ∀ i, u.frozen? ⟨eb, i, none⟩ = false :=
  ⟨cell_of_row u eb 3 _ _ _ h, cell_of_row u eb 4 _ _ _ h, cell_of_row u eb 5 _ _ _ h, fun i => frozen_of_row u eb i _ _ h⟩
section
variable {w : World} {b eb lo hi : Nat} {pv : Value} {m : Nat → Int} {code : List (List InsD)} {pr : List Int} {t0 t1 t2 : Value} {ev : Nat → Int}
  (S : StIn w b lo hi pv m code pr) (he : w.heap[eb]? = some (evO t0 t1 t2 ev)) (h1 : b ≠ eb) (h2 : pv.ownBlock ≠ some eb) (h3 : eb < lo ∨ hi ≤ eb)
include S he h1 h2 h3
theorem da_1 {k : Nat} (hk : k < 6) {A : Nat} (hA : A < 4) (y z : Int) : Calls Tryz.prog 74 #[.pointer (some ⟨b, 0, none⟩), .pointer (some ⟨b, 1 + k * 6, none⟩), insV 1 A y z, .pointer (some ⟨eb, 0, none⟩)] w (DoPost w b eb lo hi pv m code pr t0 t1 t2 ev [.m (rg k A) y] [] true) := by
  have hv : ∀ u, Below w.heap.size w u → u.heap[eb]? = some (evO t0 t1 t2 ev) := fun u hB => (hB.block eb (Array.getElem?_eq_some_iff.1 he).1).trans he
  obtain ⟨e3, e4, e5, eg⟩ := ev_cells he
  refine (do_1 b eb ⟨b, 1 + k * 6, none⟩ A y z w (fun u => u.setCell ⟨b, rg k A, none⟩ (.int .i64 y)) (fun B u v h => below_both h _ _) (fun u hB => reckon_const b k A y z hA _ u ((S.later hB).reg k A hk hA) ((S.later hB).frozen _))).mono ?_
  intro e w' h
  exact do_fin S he h1 h2 h3 _ (by simp [Ed.ok, rg] <;> omega) (by simp only [ed, v_reg hk hA]) h
theorem da_2 {k : Nat} (hk : k < 6) {A B : Nat} (hA : A < 4) (hB4 : B < 4) (z : Int) : Calls Tryz.prog 74 #[.pointer (some ⟨b, 0, none⟩), .pointer (some ⟨b, 1 + k * 6, none⟩), insV 2 A B z, .pointer (some ⟨eb, 0, none⟩)] w (DoPost w b eb lo hi pv m code pr t0 t1 t2 ev [.m (rg k A) (m (rg k B))] [] true) := by
  have hv : ∀ u, Below w.heap.size w u → u.heap[eb]? = some (evO t0 t1 t2 ev) := fun u hB => (hB.block eb (Array.getElem?_eq_some_iff.1 he).1).trans he
  obtain ⟨e3, e4, e5, eg⟩ := ev_cells he
  refine (do_2 b eb ⟨b, 1 + k * 6, none⟩ A B z w (fun u => u.setCell ⟨b, rg k A, none⟩ (.int .i64 (m (rg k B)))) (fun B u v h => below_both h _ _) (fun u hB => reckon_move b k A B z hB4 _ hA _ u ((S.later hB).reg k A hk hA) ((S.later hB).frozen _) ((S.later hB).reg k B hk hB4))).mono ?_
  intro e w' h
  exact do_fin S he h1 h2 h3 _ (by simp [Ed.ok, rg] <;> omega) (by simp only [ed, v_reg hk hA]) h
theorem da_3 {k : Nat} (hk : k < 6) {A B C : Nat} (hA : A < 4) (hB4 : B < 4) (hC4 : C < 4) : Calls Tryz.prog 74 #[.pointer (some ⟨b, 0, none⟩), .pointer (some ⟨b, 1 + k * 6, none⟩), insV 3 A B C, .pointer (some ⟨eb, 0, none⟩)] w (DoPost w b eb lo hi pv m code pr t0 t1 t2 ev [.m (rg k A) (wrap64 (m (rg k B) + m (rg k C)))] [] true) := by
  have hv : ∀ u, Below w.heap.size w u → u.heap[eb]? = some (evO t0 t1 t2 ev) := fun u hB => (hB.block eb (Array.getElem?_eq_some_iff.1 he).1).trans he
  obtain ⟨e3, e4, e5, eg⟩ := ev_cells he
  refine (do_3 b eb ⟨b, 1 + k * 6, none⟩ A B C w (fun u => u.setCell ⟨b, rg k A, none⟩ (.int .i64 (wrap64 (m (rg k B) + m (rg k C))))) (fun B u v h => below_both h _ _) (fun u hB => reckon_add b k A B C hB4 hC4 _ _ hA _ u ((S.later hB).reg k A hk hA) ((S.later hB).frozen _) ((S.later hB).reg k B hk hB4) ((S.later hB).reg k C hk hC4))).mono ?_
  intro e w' h
  exact do_fin S he h1 h2 h3 _ (by simp [Ed.ok, rg] <;> omega) (by simp only [ed, v_reg hk hA]) h
theorem da_4 {k : Nat} (hk : k < 6) {A B C : Nat} (hA : A < 4) (hB4 : B < 4) (hC4 : C < 4) : Calls Tryz.prog 74 #[.pointer (some ⟨b, 0, none⟩), .pointer (some ⟨b, 1 + k * 6, none⟩), insV 4 A B C, .pointer (some ⟨eb, 0, none⟩)] w (DoPost w b eb lo hi pv m code pr t0 t1 t2 ev [.m (rg k A) (wrap64 (m (rg k B) - m (rg k C)))] [] true) := by
  have hv : ∀ u, Below w.heap.size w u → u.heap[eb]? = some (evO t0 t1 t2 ev) := fun u hB => (hB.block eb (Array.getElem?_eq_some_iff.1 he).1).trans he
  obtain ⟨e3, e4, e5, eg⟩ := ev_cells he
  refine (do_4 b eb ⟨b, 1 + k * 6, none⟩ A B C w (fun u => u.setCell ⟨b, rg k A, none⟩ (.int .i64 (wrap64 (m (rg k B) - m (rg k C))))) (fun B u v h => below_both h _ _) (fun u hB => reckon_sub b k A B C hB4 hC4 _ _ hA _ u ((S.later hB).reg k A hk hA) ((S.later hB).frozen _) ((S.later hB).reg k B hk hB4) ((S.later hB).reg k C hk hC4))).mono ?_
  intro e w' h
  exact do_fin S he h1 h2 h3 _ (by simp [Ed.ok, rg] <;> omega) (by simp only [ed, v_reg hk hA]) h
theorem da_5 {k : Nat} (hk : k < 6) {A B C : Nat} (hA : A < 4) (hB4 : B < 4) (hC4 : C < 4) : Calls Tryz.prog 74 #[.pointer (some ⟨b, 0, none⟩), .pointer (some ⟨b, 1 + k * 6, none⟩), insV 5 A B C, .pointer (some ⟨eb, 0, none⟩)] w (DoPost w b eb lo hi pv m code pr t0 t1 t2 ev [.m (rg k A) (wrap64 (m (rg k B) * m (rg k C)))] [] true) := by
  have hv : ∀ u, Below w.heap.size w u → u.heap[eb]? = some (evO t0 t1 t2 ev) := fun u hB => (hB.block eb (Array.getElem?_eq_some_iff.1 he).1).trans he
  obtain ⟨e3, e4, e5, eg⟩ := ev_cells he
  refine (do_5 b eb ⟨b, 1 + k * 6, none⟩ A B C w (fun u => u.setCell ⟨b, rg k A, none⟩ (.int .i64 (wrap64 (m (rg k B) * m (rg k C))))) (fun B u v h => below_both h _ _) (fun u hB => reckon_mul b k A B C hB4 hC4 _ _ hA _ u ((S.later hB).reg k A hk hA) ((S.later hB).frozen _) ((S.later hB).reg k B hk hB4) ((S.later hB).reg k C hk hC4))).mono ?_
  intro e w' h
  exact do_fin S he h1 h2 h3 _ (by simp [Ed.ok, rg] <;> omega) (by simp only [ed, v_reg hk hA]) h
theorem da_6 {k : Nat} (hk : k < 6) {A B C : Nat} (hA : A < 4) (hB4 : B < 4) (hC4 : C < 4) : Calls Tryz.prog 74 #[.pointer (some ⟨b, 0, none⟩), .pointer (some ⟨b, 1 + k * 6, none⟩), insV 6 A B C, .pointer (some ⟨eb, 0, none⟩)] w (DoPost w b eb lo hi pv m code pr t0 t1 t2 ev [.m (rg k A) (bitN (decide (m (rg k B) < m (rg k C))))] [] true) := by
  have hv : ∀ u, Below w.heap.size w u → u.heap[eb]? = some (evO t0 t1 t2 ev) := fun u hB => (hB.block eb (Array.getElem?_eq_some_iff.1 he).1).trans he
  obtain ⟨e3, e4, e5, eg⟩ := ev_cells he
  refine (do_6 b eb ⟨b, 1 + k * 6, none⟩ A B C w (fun u => u.setCell ⟨b, rg k A, none⟩ (.int .i64 (bitN (decide (m (rg k B) < m (rg k C)))))) (fun B u v h => below_both h _ _) (fun u hB => reckon_less b k A B C hB4 hC4 _ _ hA _ u ((S.later hB).reg k A hk hA) ((S.later hB).frozen _) ((S.later hB).reg k B hk hB4) ((S.later hB).reg k C hk hC4))).mono ?_
  intro e w' h
  exact do_fin S he h1 h2 h3 _ (by simp [Ed.ok, rg] <;> omega) (by simp only [ed, v_reg hk hA]) h
theorem da_10 {k : Nat} (hk : k < 6) (x y z : Int) : Calls Tryz.prog 74 #[.pointer (some ⟨b, 0, none⟩), .pointer (some ⟨b, 1 + k * 6, none⟩), insV 10 x y z, .pointer (some ⟨eb, 0, none⟩)] w (DoPost w b eb lo hi pv m code pr t0 t1 t2 ev [.m (1 + k * 6 + 1) x] [] true) := by
  have hv : ∀ u, Below w.heap.size w u → u.heap[eb]? = some (evO t0 t1 t2 ev) := fun u hB => (hB.block eb (Array.getElem?_eq_some_iff.1 he).1).trans he
  obtain ⟨e3, e4, e5, eg⟩ := ev_cells he
  refine (do_10 b eb ⟨b, 1 + k * 6, none⟩ x y z w (fun u => u.setCell ⟨b, 1 + k * 6 + 1, none⟩ (.int .i64 x)) (fun B u v h => below_both h _ _) (fun u hB => turn_jump b k x y z _ u ((S.later hB).pc k hk) ((S.later hB).frozen _))).mono ?_
  intro e w' h
  exact do_fin S he h1 h2 h3 _ (by simp [Ed.ok, rg] <;> omega) (by simp only [ed, v_pc hk]) h
theorem da_11y {k : Nat} (hk : k < 6) {A : Nat} (hA : A < 4) (y z : Int) (hz : m (rg k A) = 0) : Calls Tryz.prog 74 #[.pointer (some ⟨b, 0, none⟩), .pointer (some ⟨b, 1 + k * 6, none⟩), insV 11 A y z, .pointer (some ⟨eb, 0, none⟩)] w (DoPost w b eb lo hi pv m code pr t0 t1 t2 ev [.m (1 + k * 6 + 1) y] [] true) := by
  have hv : ∀ u, Below w.heap.size w u → u.heap[eb]? = some (evO t0 t1 t2 ev) := fun u hB => (hB.block eb (Array.getElem?_eq_some_iff.1 he).1).trans he
  obtain ⟨e3, e4, e5, eg⟩ := ev_cells he
  refine (do_11 b eb ⟨b, 1 + k * 6, none⟩ A y z w (fun u => u.setCell ⟨b, 1 + k * 6 + 1, none⟩ (.int .i64 y)) (fun B u v h => below_both h _ _) (fun u hB => turn_zero_yes b k A hA y z _ u ((S.later hB).pc k hk) ((S.later hB).frozen _) (by rw [(S.later hB).reg k A hk hA, hz]))).mono ?_
  intro e w' h
  exact do_fin S he h1 h2 h3 _ (by simp [Ed.ok, rg] <;> omega) (by simp only [ed, v_pc hk]) h
theorem da_11n {k : Nat} (hk : k < 6) {A : Nat} (hA : A < 4) (y z : Int) (hz : (m (rg k A) == 0) = false) : Calls Tryz.prog 74 #[.pointer (some ⟨b, 0, none⟩), .pointer (some ⟨b, 1 + k * 6, none⟩), insV 11 A y z, .pointer (some ⟨eb, 0, none⟩)] w (DoPost w b eb lo hi pv m code pr t0 t1 t2 ev [] [] true) := by
  have hv : ∀ u, Below w.heap.size w u → u.heap[eb]? = some (evO t0 t1 t2 ev) := fun u hB => (hB.block eb (Array.getElem?_eq_some_iff.1 he).1).trans he
  obtain ⟨e3, e4, e5, eg⟩ := ev_cells he
  refine (do_11 b eb ⟨b, 1 + k * 6, none⟩ A y z w (fun u => u) (fun B u v h => h) (fun u hB => turn_zero_no b k A hA y z _ u ((S.later hB).reg k A hk hA) hz)).mono ?_
  intro e w' h
  exact do_fin S he h1 h2 h3 _ (by simp [Ed.ok, rg] <;> omega) (by rfl) h
theorem da_7 {k : Nat} (hk : k < 6) {A B : Nat} (hA : A < 4) (hB4 : B < 8) (z : Int) : Calls Tryz.prog 74 #[.pointer (some ⟨b, 0, none⟩), .pointer (some ⟨b, 1 + k * 6, none⟩), insV 7 A B z, .pointer (some ⟨eb, 0, none⟩)] w (DoPost w b eb lo hi pv m code pr t0 t1 t2 ev [.e 3 B, .e 4 (m (37 + B)), .m (rg k A) (m (37 + B))] [] true) := by
  have hv : ∀ u, Below w.heap.size w u → u.heap[eb]? = some (evO t0 t1 t2 ev) := fun u hB => (hB.block eb (Array.getElem?_eq_some_iff.1 he).1).trans he
  obtain ⟨e3, e4, e5, eg⟩ := ev_cells he
  refine (do_7 b eb ⟨b, 1 + k * 6, none⟩ A B z w (fun u => ((u.setCell ⟨eb, 3, none⟩ (.int .i64 B)).setCell ⟨eb, 4, none⟩ (.int .i64 (m (37 + B)))).setCell ⟨b, rg k A, none⟩ (.int .i64 (m (37 + B)))) (fun B u v h => below_both (below_both (below_both h _ _) _ _) _ _) (fun u hB => touch_load b eb k A B z hA hB4 _ _ _ _ u ((S.later hB).cellI (37 + B) (by simp [isB]; omega) (by omega) (by omega) (by omega)) ((S.later hB).reg k A hk hA) (fun i => (S.later hB).frozen i) (ev_cells (hv u hB)).1 (ev_cells (hv u hB)).2.1 (ev_cells (hv u hB)).2.2.2 h1)).mono ?_
  intro e w' h
  exact do_fin S he h1 h2 h3 _ (by simp [Ed.ok, rg] <;> omega) (by simp only [ed, v_reg hk hA]) h
theorem da_8 {k : Nat} (hk : k < 6) {A B : Nat} (hA : A < 8) (hB4 : B < 4) (z : Int) : Calls Tryz.prog 74 #[.pointer (some ⟨b, 0, none⟩), .pointer (some ⟨b, 1 + k * 6, none⟩), insV 8 A B z, .pointer (some ⟨eb, 0, none⟩)] w (DoPost w b eb lo hi pv m code pr t0 t1 t2 ev [.e 3 A, .e 4 (m (rg k B)), .m (37 + A) (m (rg k B))] [] true) := by
  have hv : ∀ u, Below w.heap.size w u → u.heap[eb]? = some (evO t0 t1 t2 ev) := fun u hB => (hB.block eb (Array.getElem?_eq_some_iff.1 he).1).trans he
  obtain ⟨e3, e4, e5, eg⟩ := ev_cells he
  refine (do_8 b eb ⟨b, 1 + k * 6, none⟩ A B z w (fun u => ((u.setCell ⟨eb, 3, none⟩ (.int .i64 A)).setCell ⟨eb, 4, none⟩ (.int .i64 (m (rg k B)))).setCell ⟨b, 37 + A, none⟩ (.int .i64 (m (rg k B)))) (fun B u v h => below_both (below_both (below_both h _ _) _ _) _ _) (fun u hB => touch_store b eb k A B z hA hB4 _ _ _ _ u ((S.later hB).reg k B hk hB4) ((S.later hB).cellI (37 + A) (by simp [isB]; omega) (by omega) (by omega) (by omega)) (fun i => (S.later hB).frozen i) (ev_cells (hv u hB)).1 (ev_cells (hv u hB)).2.1 (ev_cells (hv u hB)).2.2.2 h1)).mono ?_
  intro e w' h
  exact do_fin S he h1 h2 h3 _ (by simp [Ed.ok, rg] <;> omega) (by simp only [ed, v_var hA]) h
theorem da_17 {k : Nat} (hk : k < 6) {A B : Nat} (hA : A < 4) (hB4 : B < 4) (z : Int) : Calls Tryz.prog 74 #[.pointer (some ⟨b, 0, none⟩), .pointer (some ⟨b, 1 + k * 6, none⟩), insV 17 A B z, .pointer (some ⟨eb, 0, none⟩)] w (DoPost w b eb lo hi pv m code pr t0 t1 t2 ev [.e 3 B, .e 4 (m (45 + B)), .m (rg k A) (m (45 + B))] [] true) := by
  have hv : ∀ u, Below w.heap.size w u → u.heap[eb]? = some (evO t0 t1 t2 ev) := fun u hB => (hB.block eb (Array.getElem?_eq_some_iff.1 he).1).trans he
  obtain ⟨e3, e4, e5, eg⟩ := ev_cells he
  refine (do_17 b eb ⟨b, 1 + k * 6, none⟩ A B z w (fun u => ((u.setCell ⟨eb, 3, none⟩ (.int .i64 B)).setCell ⟨eb, 4, none⟩ (.int .i64 (m (45 + B)))).setCell ⟨b, rg k A, none⟩ (.int .i64 (m (45 + B)))) (fun B u v h => below_both (below_both (below_both h _ _) _ _) _ _) (fun u hB => touch_read b eb k A B z hA hB4 _ _ _ _ u ((S.later hB).cellI (45 + B) (by simp [isB]; omega) (by omega) (by omega) (by omega)) ((S.later hB).reg k A hk hA) (fun i => (S.later hB).frozen i) (ev_cells (hv u hB)).1 (ev_cells (hv u hB)).2.1 (ev_cells (hv u hB)).2.2.2 h1)).mono ?_
  intro e w' h
  exact do_fin S he h1 h2 h3 _ (by simp [Ed.ok, rg] <;> omega) (by simp only [ed, v_reg hk hA]) h
theorem da_18 {k : Nat} (hk : k < 6) {A B : Nat} (hA : A < 4) (hB4 : B < 4) (z : Int) : Calls Tryz.prog 74 #[.pointer (some ⟨b, 0, none⟩), .pointer (some ⟨b, 1 + k * 6, none⟩), insV 18 A B z, .pointer (some ⟨eb, 0, none⟩)] w (DoPost w b eb lo hi pv m code pr t0 t1 t2 ev [.e 3 A, .e 4 (m (rg k B)), .m (45 + A) (m (rg k B))] [] true) := by
  have hv : ∀ u, Below w.heap.size w u → u.heap[eb]? = some (evO t0 t1 t2 ev) := fun u hB => (hB.block eb (Array.getElem?_eq_some_iff.1 he).1).trans he
  obtain ⟨e3, e4, e5, eg⟩ := ev_cells he
  refine (do_18 b eb ⟨b, 1 + k * 6, none⟩ A B z w (fun u => ((u.setCell ⟨eb, 3, none⟩ (.int .i64 A)).setCell ⟨eb, 4, none⟩ (.int .i64 (m (rg k B)))).setCell ⟨b, 45 + A, none⟩ (.int .i64 (m (rg k B)))) (fun B u v h => below_both (below_both (below_both h _ _) _ _) _ _) (fun u hB => touch_write b eb k A B z hA hB4 _ _ _ _ u ((S.later hB).reg k B hk hB4) ((S.later hB).cellI (45 + A) (by simp [isB]; omega) (by omega) (by omega) (by omega)) (fun i => (S.later hB).frozen i) (ev_cells (hv u hB)).1 (ev_cells (hv u hB)).2.1 (ev_cells (hv u hB)).2.2.2 h1)).mono ?_
  intro e w' h
  exact do_fin S he h1 h2 h3 _ (by simp [Ed.ok, rg] <;> omega) (by simp only [ed, v_atom hA]) h
theorem da_19 {k : Nat} (hk : k < 6) {A B C : Nat} (hA : A < 4) (hB4 : B < 4) (hC4 : C < 4) : Calls Tryz.prog 74 #[.pointer (some ⟨b, 0, none⟩), .pointer (some ⟨b, 1 + k * 6, none⟩), insV 19 A B C, .pointer (some ⟨eb, 0, none⟩)] w (DoPost w b eb lo hi pv m code pr t0 t1 t2 ev [.e 3 B, .e 4 (m (45 + B)), .m (45 + B) (wrap64 (m (45 + B) + m (rg k C))), .m (rg k A) (m (45 + B))] [] true) := by
  have hv : ∀ u, Below w.heap.size w u → u.heap[eb]? = some (evO t0 t1 t2 ev) := fun u hB => (hB.block eb (Array.getElem?_eq_some_iff.1 he).1).trans he
  obtain ⟨e3, e4, e5, eg⟩ := ev_cells he
  refine (do_19 b eb ⟨b, 1 + k * 6, none⟩ A B C w (fun u => (((u.setCell ⟨eb, 3, none⟩ (.int .i64 B)).setCell ⟨eb, 4, none⟩ (.int .i64 (m (45 + B)))).setCell ⟨b, 45 + B, none⟩ (.int .i64 (wrap64 (m (45 + B) + m (rg k C))))).setCell ⟨b, rg k A, none⟩ (.int .i64 (m (45 + B)))) (fun B u v h => below_both (below_both (below_both (below_both h _ _) _ _) _ _) _ _) (fun u hB => touch_bump b eb k A B C hA hB4 hC4 _ _ _ _ _ u ((S.later hB).cellI (45 + B) (by simp [isB]; omega) (by omega) (by omega) (by omega)) ((S.later hB).reg k A hk hA) ((S.later hB).reg k C hk hC4) hk (fun i => (S.later hB).frozen i) (ev_cells (hv u hB)).1 (ev_cells (hv u hB)).2.1 (ev_cells (hv u hB)).2.2.2 h1)).mono ?_
  intro e w' h
  exact do_fin S he h1 h2 h3 _ (by simp [Ed.ok, rg] <;> omega) (by simp only [ed, v_reg hk hA, v_atom hB4]) h
theorem da_12 {k : Nat} (hk : k < 6) {A : Nat} (hA : A < 6) (y z : Int) : Calls Tryz.prog 74 #[.pointer (some ⟨b, 0, none⟩), .pointer (some ⟨b, 1 + k * 6, none⟩), insV 12 A y z, .pointer (some ⟨eb, 0, none⟩)] w (DoPost w b eb lo hi pv m code pr t0 t1 t2 ev [.e 3 A, .m (1 + A * 6) 1] [] (!(m (1 + A * 6) == 1))) := by
  have hv : ∀ u, Below w.heap.size w u → u.heap[eb]? = some (evO t0 t1 t2 ev) := fun u hB => (hB.block eb (Array.getElem?_eq_some_iff.1 he).1).trans he
  obtain ⟨e3, e4, e5, eg⟩ := ev_cells he
  refine (do_12 b eb A ⟨b, 1 + k * 6, none⟩ y z hA _ (!(m (1 + A * 6) == 1)) [(1 + A * 6, .bool true)] w e3 eg h1 S.lt (fun u hu => begin_any b _ _ u ((World.cell?_of_block hu).trans (S.on A hA)) ((World.frozen?_of_block hu).trans (S.frozen _)))).mono ?_
  intro e w' h
  exact do_fin S he h1 h2 h3 _ (by simp [Ed.ok, rg] <;> omega) (by simp only [ed, putsB, v_on hA]; rfl) h
theorem da_13 {k : Nat} (hk : k < 6) {A : Nat} (hA : A < 4) (y z : Int) : Calls Tryz.prog 74 #[.pointer (some ⟨b, 0, none⟩), .pointer (some ⟨b, 1 + k * 6, none⟩), insV 13 A y z, .pointer (some ⟨eb, 0, none⟩)] w (DoPost w b eb lo hi pv m code pr t0 t1 t2 ev [.e 3 A, .m (49 + A * 2) 1] [] true) := by
  have hv : ∀ u, Below w.heap.size w u → u.heap[eb]? = some (evO t0 t1 t2 ev) := fun u hB => (hB.block eb (Array.getElem?_eq_some_iff.1 he).1).trans he
  obtain ⟨e3, e4, e5, eg⟩ := ev_cells he
  refine (do_13 b eb A ⟨b, 1 + k * 6, none⟩ y z hA _ true [(49 + A * 2, .bool true)] w e3 eg h1 S.lt (fun u hu => change_lock b _ _ u ((World.cell?_of_block hu).trans (S.cellB (49 + A * 2) (by simp [isB]; omega) (by omega) (by omega))) ((World.frozen?_of_block hu).trans (S.frozen _)))).mono ?_
  intro e w' h
  exact do_fin S he h1 h2 h3 _ (by simp [Ed.ok, rg] <;> omega) (by simp only [ed, putsB, v_locked hA]; rfl) h
theorem da_14y {k : Nat} (hk : k < 6) {A : Nat} (hA : A < 4) (y z : Int) (ht : (m (49 + A * 2) == 1) = true) : Calls Tryz.prog 74 #[.pointer (some ⟨b, 0, none⟩), .pointer (some ⟨b, 1 + k * 6, none⟩), insV 14 A y z, .pointer (some ⟨eb, 0, none⟩)] w (DoPost w b eb lo hi pv m code pr t0 t1 t2 ev [.e 3 A, .m (49 + A * 2) 0] [] true) := by
  have hv : ∀ u, Below w.heap.size w u → u.heap[eb]? = some (evO t0 t1 t2 ev) := fun u hB => (hB.block eb (Array.getElem?_eq_some_iff.1 he).1).trans he
  obtain ⟨e3, e4, e5, eg⟩ := ev_cells he
  refine (do_14 b eb A ⟨b, 1 + k * 6, none⟩ y z hA _ true [(49 + A * 2, .bool false)] w e3 eg h1 S.lt (fun u hu => change_unlock_yes b _ u (by rw [World.cell?_of_block hu, S.cellB (49 + A * 2) (by simp [isB]; omega) (by omega) (by omega), ht]) ((World.frozen?_of_block hu).trans (S.frozen _)))).mono ?_
  intro e w' h
  exact do_fin S he h1 h2 h3 _ (by simp [Ed.ok, rg] <;> omega) (by simp only [ed, putsB, v_locked hA]; rfl) h
theorem da_14n {k : Nat} (hk : k < 6) {A : Nat} (hA : A < 4) (y z : Int) (ht : (m (49 + A * 2) == 1) = false) : Calls Tryz.prog 74 #[.pointer (some ⟨b, 0, none⟩), .pointer (some ⟨b, 1 + k * 6, none⟩), insV 14 A y z, .pointer (some ⟨eb, 0, none⟩)] w (DoPost w b eb lo hi pv m code pr t0 t1 t2 ev [.e 3 A] [] false) := by
  have hv : ∀ u, Below w.heap.size w u → u.heap[eb]? = some (evO t0 t1 t2 ev) := fun u hB => (hB.block eb (Array.getElem?_eq_some_iff.1 he).1).trans he
  obtain ⟨e3, e4, e5, eg⟩ := ev_cells he
  refine (do_14 b eb A ⟨b, 1 + k * 6, none⟩ y z hA _ false [] w e3 eg h1 S.lt (fun u hu => change_unlock_no b _ u (by rw [World.cell?_of_block hu, S.cellB (49 + A * 2) (by simp [isB]; omega) (by omega) (by omega), ht]))).mono ?_
  intro e w' h
  exact do_fin S he h1 h2 h3 _ (by simp [Ed.ok, rg] <;> omega) (by simp only [ed, putsB]) h
theorem da_15 {k : Nat} (hk : k < 6) {A : Nat} (hA : A < 4) (y z : Int) : Calls Tryz.prog 74 #[.pointer (some ⟨b, 0, none⟩), .pointer (some ⟨b, 1 + k * 6, none⟩), insV 15 A y z, .pointer (some ⟨eb, 0, none⟩)] w (DoPost w b eb lo hi pv m code pr t0 t1 t2 ev [.e 3 A, .m (49 + A * 2 + 1) (wrap64 (m (49 + A * 2 + 1) + 1))] [] true) := by
  have hv : ∀ u, Below w.heap.size w u → u.heap[eb]? = some (evO t0 t1 t2 ev) := fun u hB => (hB.block eb (Array.getElem?_eq_some_iff.1 he).1).trans he
  obtain ⟨e3, e4, e5, eg⟩ := ev_cells he
  refine (do_15 b eb A ⟨b, 1 + k * 6, none⟩ y z hA _ true [(49 + A * 2 + 1, .int .i64 (wrap64 (m (49 + A * 2 + 1) + 1)))] w e3 eg h1 S.lt (fun u hu => change_rlock b _ _ u ((World.cell?_of_block hu).trans (S.cellI (49 + A * 2 + 1) (by simp [isB]; omega) (by omega) (by omega) (by omega))) ((World.frozen?_of_block hu).trans (S.frozen _)))).mono ?_
  intro e w' h
  exact do_fin S he h1 h2 h3 _ (by simp [Ed.ok, rg] <;> omega) (by simp only [ed, putsB, v_readers hA]) h
theorem da_16y {k : Nat} (hk : k < 6) {A : Nat} (hA : A < 4) (y z : Int) (ht : (m (49 + A * 2 + 1) == 0) = false) : Calls Tryz.prog 74 #[.pointer (some ⟨b, 0, none⟩), .pointer (some ⟨b, 1 + k * 6, none⟩), insV 16 A y z, .pointer (some ⟨eb, 0, none⟩)] w (DoPost w b eb lo hi pv m code pr t0 t1 t2 ev [.e 3 A, .m (49 + A * 2 + 1) (wrap64 (m (49 + A * 2 + 1) - 1))] [] true) := by
  have hv : ∀ u, Below w.heap.size w u → u.heap[eb]? = some (evO t0 t1 t2 ev) := fun u hB => (hB.block eb (Array.getElem?_eq_some_iff.1 he).1).trans he
  obtain ⟨e3, e4, e5, eg⟩ := ev_cells he
  refine (do_16 b eb A ⟨b, 1 + k * 6, none⟩ y z hA _ true [(49 + A * 2 + 1, .int .i64 (wrap64 (m (49 + A * 2 + 1) - 1)))] w e3 eg h1 S.lt (fun u hu => change_runlock_yes b _ _ u ((World.cell?_of_block hu).trans (S.cellI (49 + A * 2 + 1) (by simp [isB]; omega) (by omega) (by omega) (by omega))) ((World.frozen?_of_block hu).trans (S.frozen _)) ht)).mono ?_
  intro e w' h
  exact do_fin S he h1 h2 h3 _ (by simp [Ed.ok, rg] <;> omega) (by simp only [ed, putsB, v_readers hA]) h
theorem da_16n {k : Nat} (hk : k < 6) {A : Nat} (hA : A < 4) (y z : Int) (ht : m (49 + A * 2 + 1) = 0) : Calls Tryz.prog 74 #[.pointer (some ⟨b, 0, none⟩), .pointer (some ⟨b, 1 + k * 6, none⟩), insV 16 A y z, .pointer (some ⟨eb, 0, none⟩)] w (DoPost w b eb lo hi pv m code pr t0 t1 t2 ev [.e 3 A] [] false) := by
  have hv : ∀ u, Below w.heap.size w u → u.heap[eb]? = some (evO t0 t1 t2 ev) := fun u hB => (hB.block eb (Array.getElem?_eq_some_iff.1 he).1).trans he
  obtain ⟨e3, e4, e5, eg⟩ := ev_cells he
  refine (do_16 b eb A ⟨b, 1 + k * 6, none⟩ y z hA _ false [] w e3 eg h1 S.lt (fun u hu => change_runlock_no b _ 0 u (by rw [World.cell?_of_block hu, S.cellI (49 + A * 2 + 1) (by simp [isB]; omega) (by omega) (by omega) (by omega), ht]))).mono ?_
  intro e w' h
  exact do_fin S he h1 h2 h3 _ (by simp [Ed.ok, rg] <;> omega) (by simp only [ed, putsB]) h
theorem da_27y {k : Nat} (hk : k < 6) {A : Nat} (hA : A < 4) (y z : Int) (ht : m (85 + A) = 1) : Calls Tryz.prog 74 #[.pointer (some ⟨b, 0, none⟩), .pointer (some ⟨b, 1 + k * 6, none⟩), insV 27 A y z, .pointer (some ⟨eb, 0, none⟩)] w (DoPost w b eb lo hi pv m code pr t0 t1 t2 ev [.e 3 A, .m (85 + A) 2] [] true) := by
  have hv : ∀ u, Below w.heap.size w u → u.heap[eb]? = some (evO t0 t1 t2 ev) := fun u hB => (hB.block eb (Array.getElem?_eq_some_iff.1 he).1).trans he
  obtain ⟨e3, e4, e5, eg⟩ := ev_cells he
  refine (do_27 b eb A ⟨b, 1 + k * 6, none⟩ y z hA _ true [(85 + A, .int .u8 2)] w e3 eg h1 S.lt (fun u hu => onceEnd_yes b _ u (by rw [World.cell?_of_block hu, S.cellO (85 + A) (by omega) (by omega), ht]) ((World.frozen?_of_block hu).trans (S.frozen _)))).mono ?_
  intro e w' h
  exact do_fin S he h1 h2 h3 _ (by simp [Ed.ok, rg] <;> omega) (by simp only [ed, putsB, v_once hA]) h
theorem da_27n {k : Nat} (hk : k < 6) {A : Nat} (hA : A < 4) (y z : Int) (ht : (m (85 + A) == 1) = false) : Calls Tryz.prog 74 #[.pointer (some ⟨b, 0, none⟩), .pointer (some ⟨b, 1 + k * 6, none⟩), insV 27 A y z, .pointer (some ⟨eb, 0, none⟩)] w (DoPost w b eb lo hi pv m code pr t0 t1 t2 ev [.e 3 A] [] false) := by
  have hv : ∀ u, Below w.heap.size w u → u.heap[eb]? = some (evO t0 t1 t2 ev) := fun u hB => (hB.block eb (Array.getElem?_eq_some_iff.1 he).1).trans he
  obtain ⟨e3, e4, e5, eg⟩ := ev_cells he
  refine (do_27 b eb A ⟨b, 1 + k * 6, none⟩ y z hA _ false [] w e3 eg h1 S.lt (fun u hu => onceEnd_no b _ _ u ((World.cell?_of_block hu).trans (S.cellO (85 + A) (by omega) (by omega))) ht)).mono ?_
  intro e w' h
  exact do_fin S he h1 h2 h3 _ (by simp [Ed.ok, rg] <;> omega) (by simp only [ed, putsB]) h
theorem da_24y {k : Nat} (hk : k < 6) {A : Nat} (hA : A < 4) (y z : Int) (ht : ¬ wrap64 (m (81 + A) + y) < 0) : Calls Tryz.prog 74 #[.pointer (some ⟨b, 0, none⟩), .pointer (some ⟨b, 1 + k * 6, none⟩), insV 24 A y z, .pointer (some ⟨eb, 0, none⟩)] w (DoPost w b eb lo hi pv m code pr t0 t1 t2 ev [.e 3 A, .e 4 y, .m (81 + A) (wrap64 (m (81 + A) + y))] [] true) := by
  have hv : ∀ u, Below w.heap.size w u → u.heap[eb]? = some (evO t0 t1 t2 ev) := fun u hB => (hB.block eb (Array.getElem?_eq_some_iff.1 he).1).trans he
  obtain ⟨e3, e4, e5, eg⟩ := ev_cells he
  refine (do_24 b eb A ⟨b, 1 + k * 6, none⟩ y z hA _ _ true [(81 + A, .int .i64 (wrap64 (m (81 + A) + y)))] w e3 e4 eg h1 S.lt (fun u hu => grow_yes b _ _ _ u ((World.cell?_of_block hu).trans (S.cellI (81 + A) (by simp [isB]; omega) (by omega) (by omega) (by omega))) ((World.frozen?_of_block hu).trans (S.frozen _)) ht)).mono ?_
  intro e w' h
  exact do_fin S he h1 h2 h3 _ (by simp [Ed.ok, rg] <;> omega) (by simp only [ed, putsB, v_group hA]) h
theorem da_24n {k : Nat} (hk : k < 6) {A : Nat} (hA : A < 4) (y z : Int) (ht : wrap64 (m (81 + A) + y) < 0) : Calls Tryz.prog 74 #[.pointer (some ⟨b, 0, none⟩), .pointer (some ⟨b, 1 + k * 6, none⟩), insV 24 A y z, .pointer (some ⟨eb, 0, none⟩)] w (DoPost w b eb lo hi pv m code pr t0 t1 t2 ev [.e 3 A, .e 4 y] [] false) := by
  have hv : ∀ u, Below w.heap.size w u → u.heap[eb]? = some (evO t0 t1 t2 ev) := fun u hB => (hB.block eb (Array.getElem?_eq_some_iff.1 he).1).trans he
  obtain ⟨e3, e4, e5, eg⟩ := ev_cells he
  refine (do_24 b eb A ⟨b, 1 + k * 6, none⟩ y z hA _ _ false [] w e3 e4 eg h1 S.lt (fun u hu => grow_no b _ _ _ u ((World.cell?_of_block hu).trans (S.cellI (81 + A) (by simp [isB]; omega) (by omega) (by omega) (by omega))) ht)).mono ?_
  intro e w' h
  exact do_fin S he h1 h2 h3 _ (by simp [Ed.ok, rg] <;> omega) (by simp only [ed, putsB]) h
theorem da_25 {k : Nat} (hk : k < 6) (x y z : Int) : Calls Tryz.prog 74 #[.pointer (some ⟨b, 0, none⟩), .pointer (some ⟨b, 1 + k * 6, none⟩), insV 25 x y z, .pointer (some ⟨eb, 0, none⟩)] w (DoPost w b eb lo hi pv m code pr t0 t1 t2 ev [.e 3 x] [] true) := by
  have hv : ∀ u, Below w.heap.size w u → u.heap[eb]? = some (evO t0 t1 t2 ev) := fun u hB => (hB.block eb (Array.getElem?_eq_some_iff.1 he).1).trans he
  obtain ⟨e3, e4, e5, eg⟩ := ev_cells he
  refine (do_25 b eb ⟨b, 1 + k * 6, none⟩ x y z _ w e3 eg).mono ?_
  intro e w' h
  exact do_fin S he h1 h2 h3 _ (by simp [Ed.ok, rg] <;> omega) (by rfl) h
theorem da_0 {k : Nat} (hk : k < 6) (x y z : Int) : Calls Tryz.prog 74 #[.pointer (some ⟨b, 0, none⟩), .pointer (some ⟨b, 1 + k * 6, none⟩), insV 0 x y z, .pointer (some ⟨eb, 0, none⟩)] w (DoPost w b eb lo hi pv m code pr t0 t1 t2 ev [] [] true) := by
  have hv : ∀ u, Below w.heap.size w u → u.heap[eb]? = some (evO t0 t1 t2 ev) := fun u hB => (hB.block eb (Array.getElem?_eq_some_iff.1 he).1).trans he
  obtain ⟨e3, e4, e5, eg⟩ := ev_cells he
  refine (do_0 b eb ⟨b, 1 + k * 6, none⟩ x y z w).mono ?_
  intro e w' h
  exact do_fin S he h1 h2 h3 _ (by simp [Ed.ok, rg] <;> omega) (by rfl) h
end
end Go.Proofs.YtglafbajbiengaaGreat
