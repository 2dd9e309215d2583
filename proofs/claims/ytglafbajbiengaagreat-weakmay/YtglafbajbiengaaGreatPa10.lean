/- What the laws of this seat stand on, part 10. -/
import Derived.Test.YtglafbajbiengaaGreatPa0
import Derived.Test.YtglafbajbiengaaGreatPa8
import Derived.Test.YtglafbajbiengaaGreatPa9
set_option linter.unusedVariables false
set_option linter.unusedSimpArgs false
set_option maxRecDepth 100000
set_option maxHeartbeats 40000000
namespace Go.Proofs.YtglafbajbiengaaGreat
open Go.ChangeShapes Go.WideShapes Go.ChangeAt Go.RowKit
theorem ed_app (b eb : Nat) : ∀ (l1 l2 : List Ed) (w : World), ed b eb (l1 ++ l2) w = ed b eb l2 (ed b eb l1 w)
  | [], _, _ => rfl
  | .e i v :: l, l2, w => ed_app b eb l l2 _
  | .m i v :: l, l2, w => ed_app b eb l l2 _
theorem take_ed (b eb : Nat) {B j : Nat} (hB : B < 4) (hj : j ≤ 3) (m : Nat → Int) (hm : m (57 + B * 6 + 3) = j) :
    (takeE m (57 + B * 6)).1 = (takeL (57 + B * 6) j (m (57 + B * 6)) (m (57 + B * 6 + 1)) (m (57 + B * 6 + 2)) (m (57 + B * 6 + 5) == 1)).1 ∧
    (takeE m (57 + B * 6)).2.1 = (takeL (57 + B * 6) j (m (57 + B * 6)) (m (57 + B * 6 + 1)) (m (57 + B * 6 + 2)) (m (57 + B * 6 + 5) == 1)).2.1 ∧
    (∀ u, ed b eb (takeE m (57 + B * 6)).2.2 u = putsB b (takeL (57 + B * 6) j (m (57 + B * 6)) (m (57 + B * 6 + 1)) (m (57 + B * 6 + 2)) (m (57 + B * 6 + 5) == 1)).2.2 u) ∧ ∀ x ∈ (takeE m (57 + B * 6)).2.2, x.ok := by
  match j, hj with
  | 0, _ => simp [takeE, takeL, hm, ed, putsB]
  | 1, _ => simp [takeE, takeL, hm, ed, putsB, v_num hB, Ed.ok]; omega
  | 2, _ => simp [takeE, takeL, hm, ed, putsB, v_num hB, v_num0 hB, Ed.ok]; omega
  | 3, _ => simp [takeE, takeL, hm, ed, putsB, v_num hB, v_num0 hB, Ed.ok]; omega
section
variable {w : World} {b eb lo hi : Nat} {pv : Value} {m : Nat → Int} {code : List (List InsD)} {pr : List Int} {t0 t1 t2 : Value} {ev : Nat → Int}
  (S : StIn w b lo hi pv m code pr) (he : w.heap[eb]? = some (evO t0 t1 t2 ev)) (h1 : b ≠ eb) (h2 : pv.ownBlock ≠ some eb) (h3 : eb < lo ∨ hi ≤ eb)
include S he h1 h2 h3
theorem da_20n {k : Nat} (hk : k < 6) {A B : Nat} (hA : A < 4) (hB4 : B < 4) (z : Int) (ht : (m (57 + A * 6 + 5) == 1) = true) : Calls Tryz.prog 74 #[.pointer (some ⟨b, 0, none⟩), .pointer (some ⟨b, 1 + k * 6, none⟩), insV 20 A B z, .pointer (some ⟨eb, 0, none⟩)] w (DoPost w b eb lo hi pv m code pr t0 t1 t2 ev [.e 3 A, .e 4 (m (rg k B))] [] false) := by
  have hv : ∀ u, Below w.heap.size w u → u.heap[eb]? = some (evO t0 t1 t2 ev) := fun u hB => (hB.block eb (Array.getElem?_eq_some_iff.1 he).1).trans he
  refine (do_20 b eb ⟨b, 1 + k * 6, none⟩ A B z w (fun u => (u.setCell ⟨eb, 3, none⟩ (.int .i64 A)).setCell ⟨eb, 4, none⟩ (.int .i64 (m (rg k B)))) (fun B u v h => below_both (below_both h _ _) _ _) false (fun u hB => pass_send b eb k A B z hA hB4 _ _ _ false [] u ((S.later hB).reg k B hk hB4) (ev_cells (hv u hB)).1 (ev_cells (hv u hB)).2.1 (ev_cells (hv u hB)).2.2.2 h1 (S.later hB).lt (fun u' hu => put_no b _ _ u' (by rw [World.cell?_of_block hu, (S.later hB).cellB (57 + A * 6 + 5) (by simp [isB]; omega) (by omega) (by omega), ht])))).mono ?_
  intro e w' h
  exact do_fin S he h1 h2 h3 _ (by simp [Ed.ok, rg]) (by simp only [ed]) h
theorem da_20y {k : Nat} (hk : k < 6) {A B : Nat} (hA : A < 4) (hB4 : B < 4) (z : Int) (ht : (m (57 + A * 6 + 5) == 1) = false) {j : Nat} (hj : j < 3) (hm : m (57 + A * 6 + 3) = j) : Calls Tryz.prog 74 #[.pointer (some ⟨b, 0, none⟩), .pointer (some ⟨b, 1 + k * 6, none⟩), insV 20 A B z, .pointer (some ⟨eb, 0, none⟩)] w (DoPost w b eb lo hi pv m code pr t0 t1 t2 ev [.e 3 A, .e 4 (m (rg k B)), .m (57 + A * 6 + j) (m (rg k B)), .m (57 + A * 6 + 3) ((j : Int) + 1)] [] true) := by
  have hv : ∀ u, Below w.heap.size w u → u.heap[eb]? = some (evO t0 t1 t2 ev) := fun u hB => (hB.block eb (Array.getElem?_eq_some_iff.1 he).1).trans he
  refine (do_20 b eb ⟨b, 1 + k * 6, none⟩ A B z w (fun u => (((u.setCell ⟨eb, 3, none⟩ (.int .i64 A)).setCell ⟨eb, 4, none⟩ (.int .i64 (m (rg k B)))).setCell ⟨b, 57 + A * 6 + j, none⟩ (.int .i64 (m (rg k B)))).setCell ⟨b, 57 + A * 6 + 3, none⟩ (.int .i64 ((j : Int) + 1))) (fun B u v h => below_both (below_both (below_both (below_both h _ _) _ _) _ _) _ _) true (fun u hB => pass_send b eb k A B z hA hB4 _ _ _ true [(57 + A * 6 + j, .int .i64 (m (rg k B))), (57 + A * 6 + 3, .int .i64 ((j : Int) + 1))] u ((S.later hB).reg k B hk hB4) (ev_cells (hv u hB)).1 (ev_cells (hv u hB)).2.1 (ev_cells (hv u hB)).2.2.2 h1 (S.later hB).lt (fun u' hu => put_yes b _ j hj _ _ u' (by rw [World.cell?_of_block hu, (S.later hB).cellB (57 + A * 6 + 5) (by simp [isB]; omega) (by omega) (by omega), ht]) (by rw [World.cell?_of_block hu, (S.later hB).cellI (57 + A * 6 + 3) (by simp [isB]; omega) (by omega) (by omega) (by omega), hm]) ((World.cell?_of_block hu).trans ((S.later hB).cellI (57 + A * 6 + j) (by simp [isB]; omega) (by omega) (by omega) (by omega))) (fun i => (World.frozen?_of_block hu).trans ((S.later hB).frozen i))))).mono ?_
  intro e w' h
  exact do_fin S he h1 h2 h3 _ (by simp [Ed.ok, rg]; omega) (by simp only [ed, v_num hA (show j < 5 by omega), v_num hA (show 3 < 5 by omega)]) h
theorem da_23 {k : Nat} (hk : k < 6) {A : Nat} (hA : A < 4) (y z : Int) : Calls Tryz.prog 74 #[.pointer (some ⟨b, 0, none⟩), .pointer (some ⟨b, 1 + k * 6, none⟩), insV 23 A y z, .pointer (some ⟨eb, 0, none⟩)] w (DoPost w b eb lo hi pv m code pr t0 t1 t2 ev [.e 3 A, .m (57 + A * 6 + 5) 1] [] (!(m (57 + A * 6 + 5) == 1))) := by
  have hv : ∀ u, Below w.heap.size w u → u.heap[eb]? = some (evO t0 t1 t2 ev) := fun u hB => (hB.block eb (Array.getElem?_eq_some_iff.1 he).1).trans he
  refine (do_23 b eb ⟨b, 1 + k * 6, none⟩ A y z w (fun u => (u.setCell ⟨eb, 3, none⟩ (.int .i64 A)).setCell ⟨b, 57 + A * 6 + 5, none⟩ (.bool true)) (fun B u v h => below_both (below_both h _ _) _ _) _ (fun u hB => pass_close b eb A _ y z hA _ (!(m (57 + A * 6 + 5) == 1)) [(57 + A * 6 + 5, .bool true)] u (ev_cells (hv u hB)).1 (ev_cells (hv u hB)).2.2.2 h1 (S.later hB).lt (fun u' hu => close_any b _ _ u' ((World.cell?_of_block hu).trans ((S.later hB).cellB (57 + A * 6 + 5) (by simp [isB]; omega) (by omega) (by omega))) ((World.frozen?_of_block hu).trans ((S.later hB).frozen _))))).mono ?_
  intro e w' h
  exact do_fin S he h1 h2 h3 _ (by simp [Ed.ok, rg]; omega) (by simp only [ed, v_closed hA]; rfl) h
theorem da_26n {k : Nat} (hk : k < 6) {A B : Nat} (hA : A < 4) (hB4 : B < 4) (z : Int) (ht : (m (85 + B) == 0) = false) : Calls Tryz.prog 74 #[.pointer (some ⟨b, 0, none⟩), .pointer (some ⟨b, 1 + k * 6, none⟩), insV 26 A B z, .pointer (some ⟨eb, 0, none⟩)] w (DoPost w b eb lo hi pv m code pr t0 t1 t2 ev [.e 3 B, .e 5 0, .m (rg k A) 0] [] true) := by
  obtain ⟨e3, e4, e5, eg⟩ := ev_cells he
  refine (do_26 b eb k A B z hA hB4 _ _ _ false [] w (S.reg k A hk hA) S.frozen e3 e5 eg h1 S.lt (fun u hu => onceBegin_no b _ _ u ((World.cell?_of_block hu).trans (S.cellO (85 + B) (by omega) (by omega))) ht)).mono ?_
  intro e w' h
  exact do_fin S he h1 h2 h3 _ (by simp [Ed.ok, rg]; omega) (by simp only [ed, putsB, v_reg hk hA]; rfl) h
theorem da_26y {k : Nat} (hk : k < 6) {A B : Nat} (hA : A < 4) (hB4 : B < 4) (z : Int) (ht : m (85 + B) = 0) : Calls Tryz.prog 74 #[.pointer (some ⟨b, 0, none⟩), .pointer (some ⟨b, 1 + k * 6, none⟩), insV 26 A B z, .pointer (some ⟨eb, 0, none⟩)] w (DoPost w b eb lo hi pv m code pr t0 t1 t2 ev [.m (85 + B) 1, .e 3 B, .e 5 1, .m (rg k A) 1] [] true) := by
  obtain ⟨e3, e4, e5, eg⟩ := ev_cells he
  refine (do_26 b eb k A B z hA hB4 _ _ _ true [(85 + B, .int .u8 1)] w ((S.set (85 + B) 1 (.int .u8 1) (v_once hB4).symm (by omega) (by omega)).reg k A hk hA) S.frozen e3 e5 eg h1 S.lt (fun u hu => onceBegin_yes b _ u (by rw [World.cell?_of_block hu, S.cellO (85 + B) (by omega) (by omega), ht]) ((World.frozen?_of_block hu).trans (S.frozen _)))).mono ?_
  intro e w' h
  exact do_fin S he h1 h2 h3 _ (by simp [Ed.ok, rg]; omega) (by simp only [ed, putsB, v_reg hk hA, v_once hB4]; rfl) h
end
theorem take_call {w : World} {b lo hi : Nat} (eb : Nat) {pv : Value} {m : Nat → Int} {code : List (List InsD)} {pr : List Int} (S : StIn w b lo hi pv m code pr) {B j : Nat} (hB4 : B < 4) (hj : j ≤ 3) (hm : m (57 + B * 6 + 3) = j) (u : World) (hu : u.heap[b]? = w.heap[b]?) :
    Calls Tryz.prog 126 #[.pointer (some ⟨b, 57 + B * 6, none⟩)] u fun e u' => e = .returned (.tuple #[.int .i64 (takeE m (57 + B * 6)).1, .int .i64 (takeE m (57 + B * 6)).2.1]) ∧ Below u.heap.size (ed b eb (takeE m (57 + B * 6)).2.2 u) u' := by
  obtain ⟨q1, q2, q3, q4⟩ := take_ed b eb hB4 hj m hm
  rw [q1, q2, q3]
  refine take_any b (57 + B * 6) j hj _ _ _ _ u ?_ ((World.cell?_of_block hu).trans (S.cellI _ (by simp [isB]; omega) (by omega) (by omega) (by omega))) ((World.cell?_of_block hu).trans (S.cellI _ (by simp [isB]; omega) (by omega) (by omega) (by omega))) ((World.cell?_of_block hu).trans (S.cellI _ (by simp [isB]; omega) (by omega) (by omega) (by omega))) ((World.cell?_of_block hu).trans (S.cellB _ (by simp [isB]; omega) (by omega) (by omega))) (fun i => (World.frozen?_of_block hu).trans (S.frozen i))
  rw [World.cell?_of_block hu, S.cellI (57 + B * 6 + 3) (by simp [isB]; omega) (by omega) (by omega) (by omega), hm]
theorem da_21 {w : World} {b eb lo hi : Nat} {pv : Value} {m : Nat → Int} {code : List (List InsD)} {pr : List Int} {t0 t1 t2 : Value} {ev : Nat → Int}
    (S : StIn w b lo hi pv m code pr) (he : w.heap[eb]? = some (evO t0 t1 t2 ev)) (h1 : b ≠ eb) (h2 : pv.ownBlock ≠ some eb) (h3 : eb < lo ∨ hi ≤ eb) {k : Nat} (hk : k < 6) {A B : Nat} (hA : A < 4) (hB4 : B < 4) (z : Int) {j : Nat} (hj : j ≤ 3) (hm : m (57 + B * 6 + 3) = j) : Calls Tryz.prog 74 #[.pointer (some ⟨b, 0, none⟩), .pointer (some ⟨b, 1 + k * 6, none⟩), insV 21 A B z, .pointer (some ⟨eb, 0, none⟩)] w (DoPost w b eb lo hi pv m code pr t0 t1 t2 ev ([.e 3 B] ++ (takeE m (57 + B * 6)).2.2 ++ [.e 4 (takeE m (57 + B * 6)).1, .e 5 (takeE m (57 + B * 6)).2.1, .m (rg k A) (takeE m (57 + B * 6)).1]) [] true) := by
  have hv : ∀ u, Below w.heap.size w u → u.heap[eb]? = some (evO t0 t1 t2 ev) := fun u hB => (hB.block eb (Array.getElem?_eq_some_iff.1 he).1).trans he
  obtain ⟨q1, q2, q3, q4⟩ := take_ed b eb hB4 hj m hm
  refine (do_21 b eb ⟨b, 1 + k * 6, none⟩ A B z w (fun u => (((putsB b _ (u.setCell ⟨eb, 3, none⟩ (.int .i64 B))).setCell ⟨eb, 4, none⟩ (.int .i64 (takeE m (57 + B * 6)).1)).setCell ⟨eb, 5, none⟩ (.int .i64 (takeE m (57 + B * 6)).2.1)).setCell ⟨b, rg k A, none⟩ (.int .i64 (takeE m (57 + B * 6)).1)) (fun B u v h => below_both (below_both (below_both (puts_both _ (below_both h _ _)) _ _) _ _) _ _) true (fun u hB => pass_recv b eb k A B z hA hB4 _ _ _ _ _ (takeL (57 + B * 6) j (m (57 + B * 6)) (m (57 + B * 6 + 1)) (m (57 + B * 6 + 2)) (m (57 + B * 6 + 5) == 1)).2.2 u (fun r hr => ⟨_, by rw [← q3]; exact (ed_st h1 h2 h3 _ q4 (S.later hB)).reg k r hk hr⟩) ((S.later hB).frozen) (ev_cells (hv u hB)).1 (ev_cells (hv u hB)).2.1 (ev_cells (hv u hB)).2.2.1 (ev_cells (hv u hB)).2.2.2 h1 (S.later hB).lt (fun u' hu => by rw [← q3]; exact take_call eb (S.later hB) hB4 hj hm u' hu))).mono ?_
  intro e w' h
  refine do_fin S he h1 h2 h3 _ (fun x hx => ?_) ?_ h
  · rcases List.mem_append.1 hx with hx | hx
    · rcases List.mem_append.1 hx with hx | hx
      · simp at hx; subst hx; simp [Ed.ok]
      · exact q4 x hx
    · simp at hx; rcases hx with rfl | rfl | rfl <;> simp [Ed.ok, rg] <;> omega
  · rw [ed_app, ed_app, q3]
    simp only [ed, v_reg hk hA]
theorem da_22 {w : World} {b eb lo hi : Nat} {pv : Value} {m : Nat → Int} {code : List (List InsD)} {pr : List Int} {t0 t1 t2 : Value} {ev : Nat → Int}
    (S : StIn w b lo hi pv m code pr) (he : w.heap[eb]? = some (evO t0 t1 t2 ev)) (h1 : b ≠ eb) (h2 : pv.ownBlock ≠ some eb) (h3 : eb < lo ∨ hi ≤ eb) {k : Nat} (hk : k < 6) {A B C : Nat} (hA : A < 4) (hB4 : B < 4) (hC : C < 4) {j : Nat} (hj : j ≤ 3) (hm : m (57 + B * 6 + 3) = j) : Calls Tryz.prog 74 #[.pointer (some ⟨b, 0, none⟩), .pointer (some ⟨b, 1 + k * 6, none⟩), insV 22 A B C, .pointer (some ⟨eb, 0, none⟩)] w (DoPost w b eb lo hi pv m code pr t0 t1 t2 ev ([.e 3 B] ++ (takeE m (57 + B * 6)).2.2 ++ [.e 4 (takeE m (57 + B * 6)).1, .e 5 (takeE m (57 + B * 6)).2.1, .m (rg k A) (takeE m (57 + B * 6)).1, .m (rg k C) (bitN ((takeE m (57 + B * 6)).2.1 == 1))]) [] true) := by
  have hv : ∀ u, Below w.heap.size w u → u.heap[eb]? = some (evO t0 t1 t2 ev) := fun u hB => (hB.block eb (Array.getElem?_eq_some_iff.1 he).1).trans he
  obtain ⟨q1, q2, q3, q4⟩ := take_ed b eb hB4 hj m hm
  refine (do_22 b eb ⟨b, 1 + k * 6, none⟩ A B C w (fun u => ((((putsB b _ (u.setCell ⟨eb, 3, none⟩ (.int .i64 B))).setCell ⟨eb, 4, none⟩ (.int .i64 (takeE m (57 + B * 6)).1)).setCell ⟨eb, 5, none⟩ (.int .i64 (takeE m (57 + B * 6)).2.1)).setCell ⟨b, rg k A, none⟩ (.int .i64 (takeE m (57 + B * 6)).1)).setCell ⟨b, rg k C, none⟩ (.int .i64 (bitN ((takeE m (57 + B * 6)).2.1 == 1)))) (fun B u v h => below_both (below_both (below_both (below_both (puts_both _ (below_both h _ _)) _ _) _ _) _ _) _ _) true (fun u hB => pass_poll b eb k A B C hC hA hB4 _ _ _ _ _ (takeL (57 + B * 6) j (m (57 + B * 6)) (m (57 + B * 6 + 1)) (m (57 + B * 6 + 2)) (m (57 + B * 6 + 5) == 1)).2.2 u (fun r hr => ⟨_, by rw [← q3]; exact (ed_st h1 h2 h3 _ q4 (S.later hB)).reg k r hk hr⟩) ((S.later hB).frozen) (ev_cells (hv u hB)).1 (ev_cells (hv u hB)).2.1 (ev_cells (hv u hB)).2.2.1 (ev_cells (hv u hB)).2.2.2 h1 (S.later hB).lt (fun u' hu => by rw [← q3]; exact take_call eb (S.later hB) hB4 hj hm u' hu))).mono ?_
  intro e w' h
  refine do_fin S he h1 h2 h3 _ (fun x hx => ?_) ?_ h
  · rcases List.mem_append.1 hx with hx | hx
    · rcases List.mem_append.1 hx with hx | hx
      · simp at hx; subst hx; simp [Ed.ok]
      · exact q4 x hx
    · simp at hx; rcases hx with rfl | rfl | rfl | rfl <;> simp [Ed.ok, rg] <;> omega
  · rw [ed_app, ed_app, q3]
    simp only [ed, v_reg hk hA, v_reg hk hC]
/-- What any instruction of sound code does, that need not wait. -/
theorem do_any {w : World} {b eb lo hi : Nat} {pv : Value} {m : Nat → Int} {code : List (List InsD)} {pr : List Int} {t0 t1 t2 : Value} {ev : Nat → Int}
    (S : StIn w b lo hi pv m code pr) (he : w.heap[eb]? = some (evO t0 t1 t2 ev)) (h1 : b ≠ eb) (h2 : pv.ownBlock ≠ some eb) (h3 : eb < lo ∨ hi ≤ eb) (hpl : pr.length ≤ 1000000) {k nt n : Nat} (hk : k < 6) (hnt : nt ≤ 6) (x : InsD) (hx : InsFit nt n x)
    (hch : ∀ c, c < 4 → 0 ≤ m (57 + c * 6 + 3) ∧ m (57 + c * 6 + 3) ≤ m (57 + c * 6 + 4) ∧ m (57 + c * 6 + 4) ≤ 3) (hb : blockedM m x = false) :
    Calls Tryz.prog 74 #[.pointer (some ⟨b, 0, none⟩), .pointer (some ⟨b, 1 + k * 6, none⟩), insV x.op x.a x.b x.c, .pointer (some ⟨eb, 0, none⟩)] w (DoPost w b eb lo hi pv m code pr t0 t1 t2 ev (doE m k x).1 (doT m k x) (doE m k x).2) := by
  obtain ⟨op, a, y, z⟩ := x
  match op, hx, hb with
  | 0, hx, _ => exact da_0 S he h1 h2 h3 hk a y z
  | 1, hx, _ =>
    obtain ⟨A, rfl, hA⟩ : Fit 4 a := hx
    exact da_1 S he h1 h2 h3 hk hA y z
  | 2, hx, _ =>
    obtain ⟨⟨A, rfl, hA⟩, ⟨B, rfl, hB⟩⟩ : Fit 4 a ∧ Fit 4 y := hx
    exact da_2 S he h1 h2 h3 hk hA hB z
  | 3, hx, _ =>
    obtain ⟨⟨A, rfl, hA⟩, ⟨B, rfl, hB⟩, ⟨C, rfl, hC⟩⟩ : Fit 4 a ∧ Fit 4 y ∧ Fit 4 z := hx
    exact da_3 S he h1 h2 h3 hk hA hB hC
  | 4, hx, _ =>
    obtain ⟨⟨A, rfl, hA⟩, ⟨B, rfl, hB⟩, ⟨C, rfl, hC⟩⟩ : Fit 4 a ∧ Fit 4 y ∧ Fit 4 z := hx
    exact da_4 S he h1 h2 h3 hk hA hB hC
  | 5, hx, _ =>
    obtain ⟨⟨A, rfl, hA⟩, ⟨B, rfl, hB⟩, ⟨C, rfl, hC⟩⟩ : Fit 4 a ∧ Fit 4 y ∧ Fit 4 z := hx
    exact da_5 S he h1 h2 h3 hk hA hB hC
  | 6, hx, _ =>
    obtain ⟨⟨A, rfl, hA⟩, ⟨B, rfl, hB⟩, ⟨C, rfl, hC⟩⟩ : Fit 4 a ∧ Fit 4 y ∧ Fit 4 z := hx
    exact da_6 S he h1 h2 h3 hk hA hB hC
  | 7, hx, _ =>
    obtain ⟨⟨A, rfl, hA⟩, ⟨B, rfl, hB⟩⟩ : Fit 4 a ∧ Fit 8 y := hx
    exact da_7 S he h1 h2 h3 hk hA hB z
  | 8, hx, _ =>
    obtain ⟨⟨A, rfl, hA⟩, ⟨B, rfl, hB⟩⟩ : Fit 8 a ∧ Fit 4 y := hx
    exact da_8 S he h1 h2 h3 hk hA hB z
  | 9, hx, _ =>
    obtain ⟨A, rfl, hA⟩ : Fit 4 a := hx
    obtain ⟨e3, e4, e5, eg⟩ := ev_cells he
    refine (do_9 eb k A y z hA hk _ w S hpl e4 eg h1 h2 h3).mono ?_
    rintro e w' ⟨rfl, pv', q1, q2, q3, q4⟩
    exact ⟨rfl, pv', q1, q2.trans (ed_ev (b := b) h1 [.e 4 (m (rg k A))] (by simp [Ed.ok]) he), q3, q4⟩
  | 10, hx, _ => exact da_10 S he h1 h2 h3 hk a y z
  | 11, hx, _ =>
    obtain ⟨⟨A, rfl, hA⟩, _⟩ : Fit 4 a ∧ Fit (n + 1) y := hx
    simp only [doE, Int.toNat_natCast]
    rcases hq : (m (rg k A) == 0) with _ | _
    · exact da_11n S he h1 h2 h3 hk hA y z hq
    · exact da_11y S he h1 h2 h3 hk hA y z (by simpa using hq)
  | 12, hx, _ =>
    obtain ⟨A, rfl, hA⟩ : Fit nt a := hx
    exact da_12 S he h1 h2 h3 hk (show A < 6 by omega) y z
  | 13, hx, _ =>
    obtain ⟨A, rfl, hA⟩ : Fit 4 a := hx
    exact da_13 S he h1 h2 h3 hk hA y z
  | 14, hx, _ =>
    obtain ⟨A, rfl, hA⟩ : Fit 4 a := hx
    simp only [doE, Int.toNat_natCast]
    rcases hq : (m (49 + A * 2) == 1) with _ | _
    · exact da_14n S he h1 h2 h3 hk hA y z hq
    · exact da_14y S he h1 h2 h3 hk hA y z hq
  | 15, hx, _ =>
    obtain ⟨A, rfl, hA⟩ : Fit 4 a := hx
    exact da_15 S he h1 h2 h3 hk hA y z
  | 16, hx, _ =>
    obtain ⟨A, rfl, hA⟩ : Fit 4 a := hx
    simp only [doE, Int.toNat_natCast]
    rcases hq : (m (49 + A * 2 + 1) == 0) with _ | _
    · exact da_16y S he h1 h2 h3 hk hA y z hq
    · exact da_16n S he h1 h2 h3 hk hA y z (by simpa using hq)
  | 17, hx, _ =>
    obtain ⟨⟨A, rfl, hA⟩, ⟨B, rfl, hB⟩⟩ : Fit 4 a ∧ Fit 4 y := hx
    exact da_17 S he h1 h2 h3 hk hA hB z
  | 18, hx, _ =>
    obtain ⟨⟨A, rfl, hA⟩, ⟨B, rfl, hB⟩⟩ : Fit 4 a ∧ Fit 4 y := hx
    exact da_18 S he h1 h2 h3 hk hA hB z
  | 19, hx, _ =>
    obtain ⟨⟨A, rfl, hA⟩, ⟨B, rfl, hB⟩, ⟨C, rfl, hC⟩⟩ : Fit 4 a ∧ Fit 4 y ∧ Fit 4 z := hx
    exact da_19 S he h1 h2 h3 hk hA hB hC
  | 20, hx, hb =>
    obtain ⟨⟨A, rfl, hA⟩, ⟨B, rfl, hB⟩⟩ : Fit 4 a ∧ Fit 4 y := hx
    obtain ⟨c1, c2, c3⟩ := hch A hA
    obtain ⟨j, hj⟩ : ∃ j : Nat, m (57 + A * 6 + 3) = j := ⟨_, (Int.toNat_of_nonneg c1).symm⟩
    simp only [doE, Int.toNat_natCast, hj]
    rcases hq : (m (57 + A * 6 + 5) == 1) with _ | _
    · have hne : m (57 + A * 6 + 3) ≠ m (57 + A * 6 + 4) := by
        intro e
        simp [blockedM, e] at hb
        simp [hb] at hq
      exact da_20y S he h1 h2 h3 hk hA hB z hq (by omega) hj
    · exact da_20n S he h1 h2 h3 hk hA hB z hq
  | 21, hx, _ =>
    obtain ⟨⟨A, rfl, hA⟩, ⟨B, rfl, hB⟩⟩ : Fit 4 a ∧ Fit 4 y := hx
    obtain ⟨c1, c2, c3⟩ := hch B hB
    exact da_21 S he h1 h2 h3 hk hA hB z (j := (m (57 + B * 6 + 3)).toNat) (by omega) (Int.toNat_of_nonneg c1).symm
  | 22, hx, _ =>
    obtain ⟨⟨A, rfl, hA⟩, ⟨B, rfl, hB⟩, ⟨C, rfl, hC⟩⟩ : Fit 4 a ∧ Fit 4 y ∧ Fit 4 z := hx
    obtain ⟨c1, c2, c3⟩ := hch B hB
    exact da_22 S he h1 h2 h3 hk hA hB hC (j := (m (57 + B * 6 + 3)).toNat) (by omega) (Int.toNat_of_nonneg c1).symm
  | 23, hx, _ =>
    obtain ⟨A, rfl, hA⟩ : Fit 4 a := hx
    exact da_23 S he h1 h2 h3 hk hA y z
  | 24, hx, _ =>
    obtain ⟨A, rfl, hA⟩ : Fit 4 a := hx
    simp only [doE, Int.toNat_natCast]
    by_cases hq : wrap64 (m (81 + A) + y) < 0
    · rw [if_pos hq]
      exact da_24n S he h1 h2 h3 hk hA y z hq
    · rw [if_neg hq]
      exact da_24y S he h1 h2 h3 hk hA y z hq
  | 25, hx, _ => exact da_25 S he h1 h2 h3 hk a y z
  | 26, hx, _ =>
    obtain ⟨⟨A, rfl, hA⟩, ⟨B, rfl, hB⟩⟩ : Fit 4 a ∧ Fit 4 y := hx
    simp only [doE, Int.toNat_natCast]
    rcases hq : (m (85 + B) == 0) with _ | _
    · exact da_26n S he h1 h2 h3 hk hA hB z hq
    · exact da_26y S he h1 h2 h3 hk hA hB z (by simpa using hq)
  | 27, hx, _ =>
    obtain ⟨A, rfl, hA⟩ : Fit 4 a := hx
    simp only [doE, Int.toNat_natCast]
    rcases hq : (m (85 + A) == 1) with _ | _
    · exact da_27n S he h1 h2 h3 hk hA y z hq
    · exact da_27y S he h1 h2 h3 hk hA y z (by simpa using hq)
  | (op + 28), hx, _ => exact absurd hx (by simp [InsFit])
theorem edM_off : ∀ (L : List Ed) {m : Nat → Int} {j : Nat}, (∀ i v, Ed.m i v ∈ L → i ≠ j) → edM L m j = m j
  | [], _, _, _ => rfl
  | .e i v :: l, m, j, h => by rw [edM]; exact edM_off l (fun i v hh => h i v (by simp [hh]))
  | .m i v :: l, m, j, h => by rw [edM, edM_off l (fun i v hh => h i v (by simp [hh])), upd_ne _ _ (h i v (by simp)).symm]
theorem blocked_pc (m : Nat → Int) (x : InsD) {i : Nat} (hi : i < 37) (v : Int) : blockedM (upd m i v) x = blockedM m x := by
  have e : ∀ j, 37 ≤ j → upd m i v j = m j := fun j hj => upd_ne _ _ (by omega)
  simp only [blockedM, e _ (show 37 ≤ 49 + x.a.toNat * 2 by omega), e _ (show 37 ≤ 49 + x.a.toNat * 2 + 1 by omega), e _ (show 37 ≤ 57 + x.a.toNat * 6 + 3 by omega), e _ (show 37 ≤ 57 + x.a.toNat * 6 + 4 by omega), e _ (show 37 ≤ 57 + x.a.toNat * 6 + 5 by omega), e _ (show 37 ≤ 57 + x.b.toNat * 6 + 3 by omega), e _ (show 37 ≤ 57 + x.b.toNat * 6 + 5 by omega), e _ (show 37 ≤ 81 + x.a.toNat by omega), e _ (show 37 ≤ 85 + x.b.toNat by omega)]
/-- Where a put of an instruction that does not jump may lie: not at where a thread is, not at what a channel holds or may hold. -/
theorem do_off {m : Nat → Int} {nt n k : Nat} {x : InsD} (hx : InsFit nt n x) (hk : k < 6) (hnt : nt ≤ 6) (hj : x.op ≠ 10) (hj2 : x.op ≠ 11)
    (hch : ∀ c, c < 4 → 0 ≤ m (57 + c * 6 + 3) ∧ m (57 + c * 6 + 3) ≤ m (57 + c * 6 + 4) ∧ m (57 + c * 6 + 4) ≤ 3) (hb : blockedM m x = false) :
    ∀ i v, Ed.m i v ∈ (doE m k x).1 → (∀ j, j < 6 → i ≠ 1 + j * 6 + 1) ∧ i ≠ 90 ∧ ∀ c, c < 4 → i ≠ 57 + c * 6 + 4 ∧ (i = 57 + c * 6 + 3 → 0 ≤ v ∧ v ≤ m (57 + c * 6 + 4)) := by
  obtain ⟨op, a, y, z⟩ := x
  intro i v h
  match op, hx, hb with
  | 0, hx, _ => simp [doE, rg] at h
  | 1, hx, _ =>
    obtain ⟨A, rfl, hA⟩ : Fit 4 a := hx
    simp [doE, rg] at h
    exact ⟨fun j hj => by omega, by omega, fun c hc => by omega⟩
  | 2, hx, _ | 3, hx, _ | 4, hx, _ | 5, hx, _ | 6, hx, _ | 7, hx, _ | 17, hx, _ =>
    obtain ⟨A, rfl, hA⟩ : Fit 4 a := hx.1
    simp [doE, rg] at h
    exact ⟨fun j hj => by omega, by omega, fun c hc => by omega⟩
  | 8, hx, _ =>
    obtain ⟨A, rfl, hA⟩ : Fit 8 a := hx.1
    simp [doE, rg] at h
    exact ⟨fun j hj => by omega, by omega, fun c hc => by omega⟩
  | 18, hx, _ =>
    obtain ⟨A, rfl, hA⟩ : Fit 4 a := hx.1
    simp [doE, rg] at h
    exact ⟨fun j hj => by omega, by omega, fun c hc => by omega⟩
  | 9, hx, _ => simp [doE, rg] at h
  | 10, hx, _ => exact absurd rfl hj
  | 11, hx, _ => exact absurd rfl hj2
  | 12, hx, _ =>
    obtain ⟨A, rfl, hA⟩ : Fit nt a := hx
    simp [doE, rg] at h
    exact ⟨fun j hj => by omega, by omega, fun c hc => by omega⟩
  | 13, hx, _ | 15, hx, _ =>
    obtain ⟨A, rfl, hA⟩ : Fit 4 a := hx
    simp [doE, rg] at h
    exact ⟨fun j hj => by omega, by omega, fun c hc => by omega⟩
  | 23, hx, _ =>
    obtain ⟨A, rfl, hA⟩ : Fit 4 a := hx
    simp [doE, rg] at h
    exact ⟨fun j hj => by omega, by omega, fun c hc => by omega⟩
  | 14, hx, _ | 16, hx, _ | 24, hx, _ | 27, hx, _ =>
    obtain ⟨A, rfl, hA⟩ : Fit 4 a := hx
    simp only [doE, rg] at h
    split at h <;> simp at h
    all_goals exact ⟨fun j hj => by omega, by omega, fun c hc => by omega⟩
  | 19, hx, _ =>
    obtain ⟨⟨A, rfl, hA⟩, ⟨B, rfl, hB⟩, _⟩ : Fit 4 a ∧ Fit 4 y ∧ Fit 4 z := hx
    simp [doE, rg] at h
    exact ⟨fun j hj => by omega, by omega, fun c hc => by omega⟩
  | 20, hx, hb =>
    obtain ⟨⟨A, rfl, hA⟩, ⟨B, rfl, hB⟩⟩ : Fit 4 a ∧ Fit 4 y := hx
    obtain ⟨c1, c2, c3⟩ := hch A hA
    simp only [doE, rg, Int.toNat_natCast] at h
    rcases hq : (m (57 + A * 6 + 5) == 1) with _ | _
    · have hne : m (57 + A * 6 + 3) ≠ m (57 + A * 6 + 4) := by
        intro e
        simp [blockedM, e] at hb
        simp [hb] at hq
      rw [hq] at h
      simp at h
      refine ⟨fun j hj => by omega, by omega, fun c hc => ⟨by omega, fun e => ?_⟩⟩
      obtain rfl : c = A := by omega
      omega
    · rw [hq] at h
      simp at h
  | 21, hx, _ | 22, hx, _ =>
    obtain ⟨A, rfl, hA⟩ : Fit 4 a := hx.1
    obtain ⟨B, rfl, hB⟩ : Fit 4 y := by first | exact hx.2 | exact hx.2.1
    obtain ⟨c1, c2, c3⟩ := hch B hB
    try obtain ⟨C, rfl, hC⟩ : Fit 4 z := hx.2.2
    simp only [doE, rg, takeE, Int.toNat_natCast] at h
    rcases hq : (m (57 + B * 6 + 3)).toNat with _ | _ | _ | q
    all_goals
      rw [hq] at h
      simp at h
      refine ⟨fun j hj => by omega, by omega, fun c hc => ⟨by omega, fun e => ?_⟩⟩
      first
        | (obtain rfl : c = B := by omega
           omega)
        | omega
  | 25, hx, _ => simp [doE, rg] at h
  | 26, hx, _ =>
    obtain ⟨⟨A, rfl, hA⟩, ⟨B, rfl, hB⟩⟩ : Fit 4 a ∧ Fit 4 y := hx
    simp only [doE, rg] at h
    split at h <;> simp at h
    all_goals exact ⟨fun j hj => by omega, by omega, fun c hc => by omega⟩
theorem edM_in : ∀ (L : List Ed) {m : Nat → Int} {j : Nat}, edM L m j = m j ∨ ∃ v, Ed.m j v ∈ L ∧ edM L m j = v
  | [], _, _ => .inl rfl
  | .e i v :: l, m, j => by
    rw [edM]
    rcases edM_in l (m := m) (j := j) with h | ⟨u, h1, h2⟩
    · exact .inl h
    · exact .inr ⟨u, by simp [h1], h2⟩
  | .m i v :: l, m, j => by
    rw [edM]
    rcases edM_in l (m := upd m i v) (j := j) with h | ⟨u, h1, h2⟩
    · by_cases e : j = i
      · subst e
        rw [upd_same] at h
        exact .inr ⟨v, by simp, h⟩
      · rw [upd_ne _ _ e] at h
        exact .inl h
    · exact .inr ⟨u, by simp [h1], h2⟩
/-- Where a thread is behind an instruction. -/
theorem do_pc {m : Nat → Int} {nt n k : Nat} {x : InsD} (hx : InsFit nt n x) (hk : k < 6) (hnt : nt ≤ 6)
    (hch : ∀ c, c < 4 → 0 ≤ m (57 + c * 6 + 3) ∧ m (57 + c * 6 + 3) ≤ m (57 + c * 6 + 4) ∧ m (57 + c * 6 + 4) ≤ 3) (hb : blockedM m x = false) (j : Nat) (hj : j < 6) :
    edM (doE m k x).1 m (1 + j * 6 + 1) = m (1 + j * 6 + 1) ∨ j = k ∧ ∃ q : Nat, q ≤ n ∧ edM (doE m k x).1 m (1 + j * 6 + 1) = q := by
  obtain ⟨op, a, y, z⟩ := x
  by_cases h10 : op = 10
  · subst h10
    obtain ⟨A, rfl, hA⟩ : Fit (n + 1) a := hx
    by_cases e : j = k
    · subst e
      exact .inr ⟨rfl, A, by omega, by simp [doE, edM, upd]⟩
    · exact .inl (by simp only [doE, edM]; exact upd_ne _ _ (by omega))
  by_cases h11 : op = 11
  · subst h11
    obtain ⟨B, rfl, hB⟩ : Fit (n + 1) y := hx.2
    simp only [doE]
    split
    · by_cases e : j = k
      · subst e
        exact .inr ⟨rfl, B, by omega, by simp [doE, edM, upd]⟩
      · exact .inl (by simp only [doE, edM]; exact upd_ne _ _ (by omega))
    · exact .inl rfl
  refine .inl (edM_off _ fun i v h => (do_off hx hk hnt h10 h11 hch hb i v h).1 j hj)
theorem do_chan {m : Nat → Int} {nt n k : Nat} {x : InsD} (hx : InsFit nt n x) (hk : k < 6) (hnt : nt ≤ 6)
    (hch : ∀ c, c < 4 → 0 ≤ m (57 + c * 6 + 3) ∧ m (57 + c * 6 + 3) ≤ m (57 + c * 6 + 4) ∧ m (57 + c * 6 + 4) ≤ 3) (hb : blockedM m x = false) (c : Nat) (hc : c < 4) :
    edM (doE m k x).1 m (57 + c * 6 + 4) = m (57 + c * 6 + 4) ∧ 0 ≤ edM (doE m k x).1 m (57 + c * 6 + 3) ∧ edM (doE m k x).1 m (57 + c * 6 + 3) ≤ m (57 + c * 6 + 4) := by
  have hcc := hch c hc
  by_cases hjj : x.op = 10 ∨ x.op = 11
  · have hq : ∀ i v, Ed.m i v ∈ (doE m k x).1 → i = 1 + k * 6 + 1 := by
      intro i v h
      rcases hjj with e | e
      · simp [doE, e] at h; exact h.1
      · simp only [doE, e] at h
        split at h
        · simp at h; exact h.1
        · simp at h
    have e3 := edM_off (doE m k x).1 (m := m) (j := 57 + c * 6 + 3) fun i v h => by have := hq i v h; omega
    have e4 := edM_off (doE m k x).1 (m := m) (j := 57 + c * 6 + 4) fun i v h => by have := hq i v h; omega
    rw [e3, e4]; exact ⟨rfl, hcc.1, hcc.2.1⟩
  have ho := do_off hx hk hnt (fun e => hjj (.inl e)) (fun e => hjj (.inr e)) hch hb
  refine ⟨edM_off _ fun i v h => ((ho i v h).2.2 c hc).1, ?_⟩
  rcases edM_in (doE m k x).1 (m := m) (j := 57 + c * 6 + 3) with h | ⟨v, h1, h2⟩
  · rw [h]; exact ⟨hcc.1, hcc.2.1⟩
  · rw [h2]; exact ((ho _ v h1).2.2 c hc).2 rfl
/-- A step of thread k at the instruction x. -/
def stepK (m : Nat → Int) (k : Nat) (x : InsD) : Nat → Int :=
  upd (edM (doE (upd m (1 + k * 6 + 1) (m (1 + k * 6 + 1) + 1)) k x).1 (upd m (1 + k * 6 + 1) (m (1 + k * 6 + 1) + 1))) 90 (bitN (!(doE (upd m (1 + k * 6 + 1) (m (1 + k * 6 + 1) + 1)) k x).2))
theorem inv_step {m : Nat → Int} {code : List (List InsD)} (I : Inv m code) (hl : code.length ≤ 6) {k : Nat} {x : InsD} (hx : insM code m k = some x) (hb : blockedM m x = false) : Inv (stepK m k x) code := by
  rcases hq : code[k]? with _ | ck
  · simp [insM, hq] at hx
  have hk := (List.getElem?_eq_some_iff.1 hq).1
  simp only [insM, hq, Option.bind_some] at hx
  obtain ⟨p, hp, hpl⟩ := I.pc k ck hq
  rw [hp, Int.toNat_natCast] at hx
  have hpc := (List.getElem?_eq_some_iff.1 hx).1
  have hf := I.fit k ck hq x (List.mem_of_getElem? hx)
  unfold stepK
  generalize hm : upd m (1 + k * 6 + 1) (m (1 + k * 6 + 1) + 1) = m1
  have hfar : ∀ j, j ≠ 1 + k * 6 + 1 → m1 j = m j := fun j h => by rw [← hm]; exact upd_ne _ _ h
  have hch : ∀ c, c < 4 → 0 ≤ m1 (57 + c * 6 + 3) ∧ m1 (57 + c * 6 + 3) ≤ m1 (57 + c * 6 + 4) ∧ m1 (57 + c * 6 + 4) ≤ 3 := fun c hc => by
    rw [hfar _ (by omega), hfar _ (by omega)]; exact I.chan c hc
  have hb1 : blockedM m1 x = false := by rw [← hm, blocked_pc _ _ (by omega)]; exact hb
  refine ⟨fun j c hj => ?_, I.fit, fun c hc => ?_⟩
  · have hj6 := (List.getElem?_eq_some_iff.1 hj).1
    rw [upd_ne _ _ (by omega)]
    have h1 : ∃ q : Nat, m1 (1 + j * 6 + 1) = q ∧ q ≤ c.length := by
      by_cases e : j = k
      · subst e
        rw [hq] at hj
        cases hj
        exact ⟨p + 1, by rw [← hm, upd_same, hp]; omega, by omega⟩
      · rw [hfar _ (by omega)]; exact I.pc j c hj
    rcases do_pc (k := k) hf (by omega) hl hch hb1 j (by omega) with e | ⟨rfl, q, h2, h3⟩
    · rw [e]; exact h1
    · rw [hq] at hj
      cases hj
      exact ⟨q, h3, h2⟩
  · rw [upd_ne _ _ (by omega), upd_ne _ _ (by omega)]
    obtain ⟨h1, h2, h3⟩ := do_chan (k := k) hf (by omega) hl hch hb1 c hc
    rw [h1]
    exact ⟨h2, h3, (hch c hc).2.2⟩
theorem st_results {P : Program} {fn : Func} {p u : Tmp} {ty : TypeId} (h : fn.results = #[.cell p ty, .tmp u]) (tmps : Array Value) (w : World) (g : Nat) (t : TypeId) (cs : Array Value) (fr : Nat × Nat) (d : TypeDesc)
    (hp : tmps.getD p undef = .pointer (some ⟨g, 0, none⟩)) (hg : w.heap[g]? = some (.cells cs t fr))
    (hu : P.underlying ty = some d) (hd : (match d with | .struct _ | .array _ _ => true | _ => false) = true) (hi : (P.info? ty).map (·.size) = some cs.size) :
    (results fn tmps).run P w = .ok (.tuple #[.agg cs, tmps.getD u undef]) w := by
  rw [results_cell_tmp h]
  simp [hp, asAddr, run_loadVar_row w g t ty cs fr d hg hu hd hi, Result.andThen]
abbrev evC (k p op o v md : Int) : Obj := .cells #[.int .i64 k, .int .i64 p, .int .u8 op, .int .i64 o, .int .i64 v, .int .i64 md] 31
theorem step_no {b lo hi : Nat} {pv : Value} {m : Nat → Int} {code : List (List InsD)} {pr : List Int} (k : Int) (w : World) (S : StIn w b lo hi pv m code pr) (I : Inv m code) (hc : canM code m k = false) :
    Calls Tryz.prog 44 #[.pointer (some ⟨b, 0, none⟩), .int .i64 k] w fun e w' => e = .returned (.tuple #[evV 0 0 0 0 0 0, .bool false]) ∧ Below w.heap.size w w' := by
  have HC := Lib.hid (fun u (hB : Below w.heap.size w u) => hc ▸ can_any k u (S.later hB) I)
  clear hc
  go_enter Tryz.func44, Tryz.ntmps44
  go_wp2_with fail
  generalize hV : World.alloc w _ = V
  have hB : Below w.heap.size w V := by rw [← hV]; exact below_box _ _
  have hN : V.heap[w.heap.size]? = some (evC 0 0 0 0 0 0) := by rw [← hV]; exact heap_alloc_new _ _
  have HB := Lib.hid hB
  have HN := Lib.hid hN
  clear hV hB hN
  go_wp2_with (first
    | (go_at_call 72; refine (HC.out _ HB.out).mono ?_; rintro e w1 ⟨rfl, hB1⟩; have hN1 := Lib.hid ((hB1.block _ (Array.getElem?_eq_some_iff.1 HN.out).1).trans HN.out))
    | (refine wpList_store_row rfl 31 (.tmp 4) (.tmp 13) rfl w.heap.size _ rfl rfl 31 _ hN1.out info_event rfl (by simp [Value.oneCell']) ?_))
  refine bodyPost_ret (v := .tuple #[evV 0 0 0 0 0 0, .bool false]) (st_results (p := 4) (u := 5) rfl _ _ w.heap.size 31 #[.int .i64 0, .int .i64 0, .int .u8 0, .int .i64 0, .int .i64 0, .int .i64 0] (0, 0) _ rfl (setRow_heap _ _ _ _ _ _ hN1.out) Tryz.underlying31 rfl info_event) rfl ⟨rfl, ?_⟩
  exact below_row (below_next HB.out hB1) (Nat.le_refl _) _
/-- A store of a whole row into another block. -/
theorem StIn.rowAside {u : World} {b lo hi : Nat} {pv : Value} {m : Nat → Int} {code : List (List InsD)} {pr : List Int} (h : StIn u b lo hi pv m code pr) {e : Nat} {r : Array Value} (h1 : b ≠ e) (h2 : pv.ownBlock ≠ some e) (h3 : e < lo ∨ hi ≤ e) : StIn (u.setRow e r) b lo hi pv m code pr := by
  obtain ⟨cs, a, cap, g1, g2, g3, g4, g5, g6⟩ := h.box
  have hk : ∀ k, k ≠ e → (u.setRow e r).heap[k]? = u.heap[k]? := fun k hk => setRow_other _ _ _ _ hk
  refine ⟨⟨cs, a, cap, (hk b h1).trans g1, g2, g3, g4, g5, g6.keep fun k k1 k2 => hk k ?_⟩, ?_, h.off, h.two, h.len, h.lens, by simpa using h.top⟩
  · rcases h3 with h' | h' <;> omega
  · refine ⟨h.own.1, ?_⟩
    rcases h.own.2 with q | ⟨g, cap', cur, rfl, hb, hh, hr⟩
    · exact .inl q
    · have : g ≠ e := fun x => h2 (by simp [Value.ownBlock, x])
      exact .inr ⟨g, cap', cur, rfl, hb, (hk g this).trans hh, hr⟩
theorem Touch.row {X : Nat → Prop} {w w' : World} (h : Touch X w w') {e : Nat} {r : Array Value} (he : w.heap.size ≤ e) : Touch X w (w'.setRow e r) :=
  ⟨h.os, h.tape, h.output, by simpa using h.size, fun k hk hx => (setRow_other _ _ _ _ (by omega)).trans (h.block k hk hx)⟩
/-- What a step leaves. -/
def StepPost (w : World) (b lo hi : Nat) (pv : Value) (code : List (List InsD)) (m : Nat → Int) (pr : List Int) (ev : Value) (e : Ending) (w' : World) : Prop :=
  e = .returned (.tuple #[ev, .bool true]) ∧ ∃ pv', StIn w' b lo hi pv' m code pr ∧ Touch (fun j => j = b ∨ pv.ownBlock = some j) w w' ∧ (pv'.ownBlock = pv.ownBlock ∨ ∃ g, pv'.ownBlock = some g ∧ w.heap.size ≤ g)
/-- The numbers when thread k is behind its instruction. -/
abbrev pcUp (m : Nat → Int) (k : Nat) : Nat → Int := upd m (1 + k * 6 + 1) (m (1 + k * 6 + 1) + 1)
abbrev evK (m : Nat → Int) (k : Nat) (x : InsD) : Value := evV k (m (1 + k * 6 + 1)) x.op (edE (doE (pcUp m k) k x).1 (fun _ => 0) 3) (edE (doE (pcUp m k) k x).1 (fun _ => 0) 4) (edE (doE (pcUp m k) k x).1 (fun _ => 0) 5)
theorem step_yes {b lo hi : Nat} {pv : Value} {m : Nat → Int} {code : List (List InsD)} {pr : List Int} (k p : Nat) (x : InsD) (w : World) (S : StIn w b lo hi pv m code pr) (I : Inv m code) (hpl : pr.length ≤ 1000000) (hk : k < code.length) (hc : canM code m k = true) (hx : insM code m k = some x) (hp : m (1 + k * 6 + 1) = p) (hp60 : p ≤ 60) (hfit : ∃ n, InsFit code.length n x) (hbl : blockedM m x = false) :
    Calls Tryz.prog 44 #[.pointer (some ⟨b, 0, none⟩), .int .i64 k] w (StepPost w b lo hi pv code (stepK m k x) (pr ++ doT (pcUp m k) k x) (evK m k x)) := by
  have hl6 := S.len
  have hk6 : (k : Int) < 6 := by omega
  have HC := Lib.hid (fun u (hB : Below w.heap.size w u) => hc ▸ can_any k u (S.later hB) I)
  have HX := Lib.hid (fun u (hB : Below w.heap.size w u) => (S.later hB).next I hx)
  have HX' := Lib.hid hx
  clear hc hx
  go_enter Tryz.func44, Tryz.ntmps44
  go_wp2_with fail
  generalize hV : World.alloc w _ = V
  have hB : Below w.heap.size w V := by rw [← hV]; exact below_box _ _
  have hN : V.heap[w.heap.size]? = some (evC 0 0 0 0 0 0) := by rw [← hV]; exact heap_alloc_new _ _
  have HB := Lib.hid hB
  have HN := Lib.hid hN
  clear hV hB hN
  go_wp2_with (first
    | (go_at_call 72; refine (HC.out _ HB.out).mono ?_; rintro e w1 ⟨rfl, hB1⟩; have hN1 := Lib.hid ((hB1.block _ (Array.getElem?_eq_some_iff.1 HN.out).1).trans HN.out)))
  have HB1 := Lib.hid (below_next HB.out hB1)
  clear hB1
  go_region_law (first
    | (go_simp; go_at_call 73; refine (HX.out _ (by first | exact HB1.out.drew | exact (below_new HB1.out _).drew)).mono ?_; rintro e w2 ⟨rfl, hB2⟩; first | (have hz : w2.heap[w1.heap.size]? = some (insO 0 0 0 0) := (hB2.block w1.heap.size (by simp)).trans (heap_alloc_new w1 _); obtain ⟨z0, z1, z2, z3⟩ := cells4 hz; have fz := fun j => frozen_of_row _ _ j _ _ hz) | skip))
  all_goals first
    | (generalize hU : World.alloc w2 _ = U
       have hs2 : w1.heap.size ≤ w2.heap.size := hB2.size
       have hUB : Below w1.heap.size w1 U := by rw [← hU]; exact ((Below.refl _ _).drew.trans (by exact hB2)).trans ((below_box w2 _).mono hs2)
       have hg : U.heap[w2.heap.size]? = some (insO x.op x.a x.b x.c) := by rw [← hU]; exact heap_alloc_new _ _
       clear hU hB2
       generalize w2.heap.size = g at hg hs2 ⊢)
    | (generalize hU : World.setCell _ _ _ = U
       have hs2 : w1.heap.size ≤ w1.heap.size := Nat.le_refl _
       have hUB : Below w1.heap.size w1 U := by rw [← hU]; exact stBelow_set (stBelow_set (stBelow_set (stBelow_set ((below_box w1 (insO 0 0 0 0)).drew.trans (by exact hB2.mono (below_box w1 (insO 0 0 0 0)).size)) (Nat.le_refl _)) (Nat.le_refl _)) (Nat.le_refl _)) (Nat.le_refl _)
       have hg : U.heap[w1.heap.size]? = some (insO x.op x.a x.b x.c) := by rw [← hU]; exact stSet_four hz
       clear hU hB2 z0 z1 z2 z3 fz hz
       generalize hgg : w1.heap.size = g at hg ⊢
       replace hs2 : w1.heap.size ≤ g := by omega
       clear hgg)
  all_goals
    have hw1 : w.heap.size < w1.heap.size := (Array.getElem?_eq_some_iff.1 hN1.out).1
    have HNU := Lib.hid ((hUB.block _ hw1).trans hN1.out)
    have HUB := Lib.hid (below_next HB1.out hUB)
    obtain ⟨i0, i1, i2, i3⟩ := cells4 hg
    have SU := S.later HUB.out
    have c1 := SU.pc k (by omega)
    rw [hp] at c1
    have lb := SU.lt
    have lg := cell_lt i0
    have hpi : (p : Int) ≤ 60 := by omega
    have c1' : ∀ o, (U.alloc o).cell? ⟨b, 1 + k * 6 + 1, none⟩ = some (.int .i64 p) := fun o => ((below_box U o).cell (p := ⟨b, 1 + k * 6 + 1, none⟩) lb).trans c1
    have i0' : ∀ o, (U.alloc o).cell? ⟨g, 0, none⟩ = some (.int .u8 x.op) := fun o => ((below_box U o).cell (p := ⟨g, 0, none⟩) lg).trans i0
    have HSU := Lib.hid SU
    have Hg := Lib.hid hg
    clear hUB SU hN1 hg
    go_wp2_with fail
    go_region
    clear c1 c1' i0' i0 i1 i2 i3
    generalize hE : World.drew _ = E
    have hEB : Below U.heap.size U E := by rw [← hE]; exact (below_box U _).drew
    have he : E.heap[U.heap.size]? = some (evC k p x.op 0 0 0) := by rw [← hE]; exact heap_alloc_new U _
    have SE := HSU.out.later hEB
    have c1 := SE.pc k (by omega)
    rw [hp] at c1
    have fz := SE.frozen
    have hEr : E.heap[w.heap.size]? = some (evC 0 0 0 0 0 0) := by rw [← hE]; exact ((below_box U _).block _ (Array.getElem?_eq_some_iff.1 HNU.out).1).trans HNU.out
    clear hE
    have hbw := S.lt
    have hsU := HUB.out.size
    have hgb : g ≠ b := by omega
    have hgE : (E.setCell ⟨b, 1 + k * 6 + 1, none⟩ (.int .i64 (p + 1))).heap[g]? = some (insO x.op x.a x.b x.c) := (Below.heap_setCell _ _ _ _ hgb).trans ((hEB.block g lg).trans Hg.out)
    obtain ⟨i0, i1, i2, i3⟩ := cells4 hgE
    have SF := SE.set (1 + k * 6 + 1) (p + 1) (.int .i64 (p + 1)) (valAt_i (by simp [isB]; omega) (by omega)).symm (by omega) (by omega)
    have heF : (E.setCell ⟨b, 1 + k * 6 + 1, none⟩ (.int .i64 (p + 1))).heap[U.heap.size]? = some (evO (.int .i64 k) (.int .i64 p) (.int .u8 x.op) (fun _ => 0)) := (Below.heap_setCell _ _ _ _ (by simp only; omega)).trans he
    have hown : pv.ownBlock ≠ some U.heap.size := fun e => by have := (own_lt HSU.out.own _ e).1; omega
    have hb1 : blockedM (upd m (1 + k * 6 + 1) (p + 1)) x = false := by rw [blocked_pc _ _ (by omega)]; exact hbl
    obtain ⟨n, hfit⟩ := hfit
    have HD := Lib.hid (do_any SF heF (by omega) hown (.inr HSU.out.top) hpl (k := k) (by omega) hl6 x hfit (fun c hc => by rw [upd_ne _ _ (by omega), upd_ne _ _ (by omega)]; exact I.chan c hc) hb1)
    have HEB := Lib.hid hEB
    have HEr := Lib.hid hEr
    clear SE hEB he SF heF hEr hgE
    go_wp2_with (first
      | (go_at_call 74; refine HD.out.mono ?_; rintro e w3 ⟨rfl, pv', S3, he3, T3, ho3⟩
         have hsz3 := T3.size
         rw [size_setCell] at hsz3 ho3
         have hEs := HEB.out.size
         have he4 : ∀ v, (w3.setCell ⟨b, 90, none⟩ v).heap[U.heap.size]? = _ := fun v => (Below.heap_setCell _ _ _ _ (by simp only; omega)).trans he3
         have hr4 : ∀ v, (w3.setCell ⟨b, 90, none⟩ v).heap[w.heap.size]? = some (evC 0 0 0 0 0 0) := fun v => (Below.heap_setCell _ _ _ _ (by simp only; omega)).trans ((T3.block _ (by rw [size_setCell]; omega) (by rintro (e | e | e) <;> first | omega | (have := (own_lt S.own _ e).1; omega))).trans ((Below.heap_setCell _ _ _ _ (by simp only; omega)).trans HEr.out))
         have t90 := S3.trap
         have fz3 := S3.frozen
         obtain ⟨q0, q1, q2, q3, q4, q5⟩ := cells6 (he4 (.bool (!(doE (upd m (1 + k * 6 + 1) (p + 1)) k x).2)))
         have HS3 := Lib.hid S3
         have HT3 := Lib.hid T3
         have HR4 := Lib.hid hr4
         clear S3 T3 he3 he4 hr4)
      | (refine wpList_store_row rfl 31 (.tmp 4) (.tmp 45) rfl w.heap.size _ rfl rfl 31 _ (HR4.out _) info_event rfl (by simp [Value.oneCell']) ?_))
    refine bodyPost_ret (v := .tuple #[evK m k x, .bool true]) (st_results (p := 4) (u := 5) rfl _ _ w.heap.size 31 #[.int .i64 k, .int .i64 (m (1 + k * 6 + 1)), .int .u8 x.op, .int .i64 (edE (doE (pcUp m k) k x).1 (fun _ => 0) 3), .int .i64 (edE (doE (pcUp m k) k x).1 (fun _ => 0) 4), .int .i64 (edE (doE (pcUp m k) k x).1 (fun _ => 0) 5)] (0, 0) _ rfl (by rw [show pcUp m k = upd m (1 + k * 6 + 1) (p + 1) by unfold pcUp; rw [hp], hp]; exact setRow_heap _ _ _ _ _ _ (HR4.out _)) Tryz.underlying31 rfl info_event) rfl ⟨rfl, pv', ?_, ?_, ?_⟩
    · refine StIn.rowAside ?_ (by omega) ?_ (.inr ?_)
      · unfold stepK pcUp
        rw [hp]
        exact HS3.out.set 90 _ _ (by rw [valAt_b (by simp [isB]), bitN_eq]) (by omega) (by omega)
      · rcases ho3 with e | ⟨g', e, h'⟩
        · rw [e]; intro e'; have := (own_lt S.own _ e').1; omega
        · rw [e]; intro e'; cases e'; omega
      · exact S.top
    · refine Touch.row (Touch.set (Touch.trans (Touch.set (Touch.of_below (below_next HUB.out HEB.out)) (.inl rfl)) HT3.out ?_) (.inl rfl)) (Nat.le_refl _)
      rintro j hj (e | e | e)
      · exact .inl e
      · omega
      · exact .inr e
    · rcases ho3 with e | ⟨g', e, h'⟩
      · exact .inl e
      · exact .inr ⟨g', e, by omega⟩
end Go.Proofs.YtglafbajbiengaaGreat
