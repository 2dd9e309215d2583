/- What any instruction does: channels, onces, and all of them. -/
import Derived.Test.YtfcfdneganknjaaStateAny2
namespace Go.Proofs.Ytfcfdneganknjaa
set_option linter.unusedVariables false
set_option linter.unusedSimpArgs false
set_option maxRecDepth 100000
open Go.ChangeShapes Go.WideShapes Go.ChangeAt Go.RowKit

theorem ed_app (b eb : Nat) : ∀ (l1 l2 : List Ed) (w : World), ed b eb (l1 ++ l2) w = ed b eb l2 (ed b eb l1 w)
  | [], _, _ => rfl
  | .e i v :: l, l2, w => ed_app b eb l l2 _
  | .m i v :: l, l2, w => ed_app b eb l l2 _
theorem take_ed (b eb : Nat) {B j : Nat} (hB : B < 4) (hj : j ≤ 3) (m : Nat → Int) (hm : m (57 + B * 6 + 3) = j) :
    (takeE m (57 + B * 6)).1 = (takeL (57 + B * 6) j (m (57 + B * 6)) (m (57 + B * 6 + 1)) (m (57 + B * 6 + 2)) (m (57 + B * 6 + 5) == 1)).1 ∧
    (takeE m (57 + B * 6)).2.1 = (takeL (57 + B * 6) j (m (57 + B * 6)) (m (57 + B * 6 + 1)) (m (57 + B * 6 + 2)) (m (57 + B * 6 + 5) == 1)).2.1 ∧
    (∀ u, ed b eb (takeE m (57 + B * 6)).2.2 u = putsB b (takeL (57 + B * 6) j (m (57 + B * 6)) (m (57 + B * 6 + 1)) (m (57 + B * 6 + 2)) (m (57 + B * 6 + 5) == 1)).2.2 u) ∧ ∀ x ∈ (takeE m (57 + B * 6)).2.2, x.ok := by
  match j, hj with
  | 0, _ => simp [takeE, takeL, hm, ed, putsB]
  | 1, _ => simp [takeE, takeL, hm, ed, putsB, v_num hB, Ed.ok]; omega
  | 2, _ => simp [takeE, takeL, hm, ed, putsB, v_num hB, v_num0 hB, Ed.ok]; omega
  | 3, _ => simp [takeE, takeL, hm, ed, putsB, v_num hB, v_num0 hB, Ed.ok]; omega

section
variable {w : World} {b eb lo hi : Nat} {pv : Value} {m : Nat → Int} {code : List (List InsD)} {pr : List Int} {t0 t1 t2 : Value} {ev : Nat → Int}
  (S : StIn w b lo hi pv m code pr) (he : w.heap[eb]? = some (evO t0 t1 t2 ev)) (h1 : b ≠ eb) (h2 : pv.ownBlock ≠ some eb) (h3 : eb < lo ∨ hi ≤ eb)
include S he h1 h2 h3

theorem da_20n {k : Nat} (hk : k < 6) {A B : Nat} (hA : A < 4) (hB4 : B < 4) (z : Int) (ht : (m (57 + A * 6 + 5) == 1) = true) : Calls Try.prog 58 #[.pointer (some ⟨b, 0, none⟩), .pointer (some ⟨b, 1 + k * 6, none⟩), insV 20 A B z, .pointer (some ⟨eb, 0, none⟩)] w (DoPost w b eb lo hi pv m code pr t0 t1 t2 ev [.e 3 A, .e 4 (m (rg k B))] [] false) := by
  have hv : ∀ u, Below w.heap.size w u → u.heap[eb]? = some (evO t0 t1 t2 ev) := fun u hB => (hB.block eb (Array.getElem?_eq_some_iff.1 he).1).trans he
  refine (do_20 b eb ⟨b, 1 + k * 6, none⟩ A B z w (fun u => (u.setCell ⟨eb, 3, none⟩ (.int .i64 A)).setCell ⟨eb, 4, none⟩ (.int .i64 (m (rg k B)))) (fun B u v h => below_both (below_both h _ _) _ _) false (fun u hB => pass_send b eb k A B z hA hB4 _ _ _ false [] u ((S.later hB).reg k B hk hB4) (ev_cells (hv u hB)).1 (ev_cells (hv u hB)).2.1 (ev_cells (hv u hB)).2.2.2 h1 (S.later hB).lt (fun u' hu => put_no b _ _ u' (by rw [World.cell?_of_block hu, (S.later hB).cellB (57 + A * 6 + 5) (by simp [isB]; omega) (by omega) (by omega), ht])))).mono ?_
  intro e w' h
  exact do_fin S he h1 h2 h3 _ (by simp [Ed.ok, rg]) (by simp only [ed]) h
theorem da_20y {k : Nat} (hk : k < 6) {A B : Nat} (hA : A < 4) (hB4 : B < 4) (z : Int) (ht : (m (57 + A * 6 + 5) == 1) = false) {j : Nat} (hj : j < 3) (hm : m (57 + A * 6 + 3) = j) : Calls Try.prog 58 #[.pointer (some ⟨b, 0, none⟩), .pointer (some ⟨b, 1 + k * 6, none⟩), insV 20 A B z, .pointer (some ⟨eb, 0, none⟩)] w (DoPost w b eb lo hi pv m code pr t0 t1 t2 ev [.e 3 A, .e 4 (m (rg k B)), .m (57 + A * 6 + j) (m (rg k B)), .m (57 + A * 6 + 3) ((j : Int) + 1)] [] true) := by
  have hv : ∀ u, Below w.heap.size w u → u.heap[eb]? = some (evO t0 t1 t2 ev) := fun u hB => (hB.block eb (Array.getElem?_eq_some_iff.1 he).1).trans he
  refine (do_20 b eb ⟨b, 1 + k * 6, none⟩ A B z w (fun u => (((u.setCell ⟨eb, 3, none⟩ (.int .i64 A)).setCell ⟨eb, 4, none⟩ (.int .i64 (m (rg k B)))).setCell ⟨b, 57 + A * 6 + j, none⟩ (.int .i64 (m (rg k B)))).setCell ⟨b, 57 + A * 6 + 3, none⟩ (.int .i64 ((j : Int) + 1))) (fun B u v h => below_both (below_both (below_both (below_both h _ _) _ _) _ _) _ _) true (fun u hB => pass_send b eb k A B z hA hB4 _ _ _ true [(57 + A * 6 + j, .int .i64 (m (rg k B))), (57 + A * 6 + 3, .int .i64 ((j : Int) + 1))] u ((S.later hB).reg k B hk hB4) (ev_cells (hv u hB)).1 (ev_cells (hv u hB)).2.1 (ev_cells (hv u hB)).2.2.2 h1 (S.later hB).lt (fun u' hu => put_yes b _ j hj _ _ u' (by rw [World.cell?_of_block hu, (S.later hB).cellB (57 + A * 6 + 5) (by simp [isB]; omega) (by omega) (by omega), ht]) (by rw [World.cell?_of_block hu, (S.later hB).cellI (57 + A * 6 + 3) (by simp [isB]; omega) (by omega) (by omega) (by omega), hm]) ((World.cell?_of_block hu).trans ((S.later hB).cellI (57 + A * 6 + j) (by simp [isB]; omega) (by omega) (by omega) (by omega))) (fun i => (World.frozen?_of_block hu).trans ((S.later hB).frozen i))))).mono ?_
  intro e w' h
  exact do_fin S he h1 h2 h3 _ (by simp [Ed.ok, rg]; omega) (by simp only [ed, v_num hA (show j < 5 by omega), v_num hA (show 3 < 5 by omega)]) h
theorem da_23 {k : Nat} (hk : k < 6) {A : Nat} (hA : A < 4) (y z : Int) : Calls Try.prog 58 #[.pointer (some ⟨b, 0, none⟩), .pointer (some ⟨b, 1 + k * 6, none⟩), insV 23 A y z, .pointer (some ⟨eb, 0, none⟩)] w (DoPost w b eb lo hi pv m code pr t0 t1 t2 ev [.e 3 A, .m (57 + A * 6 + 5) 1] [] (!(m (57 + A * 6 + 5) == 1))) := by
  have hv : ∀ u, Below w.heap.size w u → u.heap[eb]? = some (evO t0 t1 t2 ev) := fun u hB => (hB.block eb (Array.getElem?_eq_some_iff.1 he).1).trans he
  refine (do_23 b eb ⟨b, 1 + k * 6, none⟩ A y z w (fun u => (u.setCell ⟨eb, 3, none⟩ (.int .i64 A)).setCell ⟨b, 57 + A * 6 + 5, none⟩ (.bool true)) (fun B u v h => below_both (below_both h _ _) _ _) _ (fun u hB => pass_close b eb A _ y z hA _ (!(m (57 + A * 6 + 5) == 1)) [(57 + A * 6 + 5, .bool true)] u (ev_cells (hv u hB)).1 (ev_cells (hv u hB)).2.2.2 h1 (S.later hB).lt (fun u' hu => close_any b _ _ u' ((World.cell?_of_block hu).trans ((S.later hB).cellB (57 + A * 6 + 5) (by simp [isB]; omega) (by omega) (by omega))) ((World.frozen?_of_block hu).trans ((S.later hB).frozen _))))).mono ?_
  intro e w' h
  exact do_fin S he h1 h2 h3 _ (by simp [Ed.ok, rg]; omega) (by simp only [ed, v_closed hA]; rfl) h
theorem da_26n {k : Nat} (hk : k < 6) {A B : Nat} (hA : A < 4) (hB4 : B < 4) (z : Int) (ht : (m (85 + B) == 0) = false) : Calls Try.prog 58 #[.pointer (some ⟨b, 0, none⟩), .pointer (some ⟨b, 1 + k * 6, none⟩), insV 26 A B z, .pointer (some ⟨eb, 0, none⟩)] w (DoPost w b eb lo hi pv m code pr t0 t1 t2 ev [.e 3 B, .e 5 0, .m (rg k A) 0] [] true) := by
  obtain ⟨e3, e4, e5, eg⟩ := ev_cells he
  refine (do_26 b eb k A B z hA hB4 _ _ _ false [] w (S.reg k A hk hA) S.frozen e3 e5 eg h1 S.lt (fun u hu => onceBegin_no b _ _ u ((World.cell?_of_block hu).trans (S.cellO (85 + B) (by omega) (by omega))) ht)).mono ?_
  intro e w' h
  exact do_fin S he h1 h2 h3 _ (by simp [Ed.ok, rg]; omega) (by simp only [ed, putsB, v_reg hk hA]; rfl) h
theorem da_26y {k : Nat} (hk : k < 6) {A B : Nat} (hA : A < 4) (hB4 : B < 4) (z : Int) (ht : m (85 + B) = 0) : Calls Try.prog 58 #[.pointer (some ⟨b, 0, none⟩), .pointer (some ⟨b, 1 + k * 6, none⟩), insV 26 A B z, .pointer (some ⟨eb, 0, none⟩)] w (DoPost w b eb lo hi pv m code pr t0 t1 t2 ev [.m (85 + B) 1, .e 3 B, .e 5 1, .m (rg k A) 1] [] true) := by
  obtain ⟨e3, e4, e5, eg⟩ := ev_cells he
  refine (do_26 b eb k A B z hA hB4 _ _ _ true [(85 + B, .int .u8 1)] w ((S.set (85 + B) 1 (.int .u8 1) (v_once hB4).symm (by omega) (by omega)).reg k A hk hA) S.frozen e3 e5 eg h1 S.lt (fun u hu => onceBegin_yes b _ u (by rw [World.cell?_of_block hu, S.cellO (85 + B) (by omega) (by omega), ht]) ((World.frozen?_of_block hu).trans (S.frozen _)))).mono ?_
  intro e w' h
  exact do_fin S he h1 h2 h3 _ (by simp [Ed.ok, rg]; omega) (by simp only [ed, putsB, v_reg hk hA, v_once hB4]; rfl) h
end
theorem take_call {w : World} {b lo hi : Nat} (eb : Nat) {pv : Value} {m : Nat → Int} {code : List (List InsD)} {pr : List Int} (S : StIn w b lo hi pv m code pr) {B j : Nat} (hB4 : B < 4) (hj : j ≤ 3) (hm : m (57 + B * 6 + 3) = j) (u : World) (hu : u.heap[b]? = w.heap[b]?) :
    Calls Try.prog 90 #[.pointer (some ⟨b, 57 + B * 6, none⟩)] u fun e u' => e = .returned (.tuple #[.int .i64 (takeE m (57 + B * 6)).1, .int .i64 (takeE m (57 + B * 6)).2.1]) ∧ Below u.heap.size (ed b eb (takeE m (57 + B * 6)).2.2 u) u' := by
  obtain ⟨q1, q2, q3, q4⟩ := take_ed b eb hB4 hj m hm
  rw [q1, q2, q3]
  refine take_any b (57 + B * 6) j hj _ _ _ _ u ?_ ((World.cell?_of_block hu).trans (S.cellI _ (by simp [isB]; omega) (by omega) (by omega) (by omega))) ((World.cell?_of_block hu).trans (S.cellI _ (by simp [isB]; omega) (by omega) (by omega) (by omega))) ((World.cell?_of_block hu).trans (S.cellI _ (by simp [isB]; omega) (by omega) (by omega) (by omega))) ((World.cell?_of_block hu).trans (S.cellB _ (by simp [isB]; omega) (by omega) (by omega))) (fun i => (World.frozen?_of_block hu).trans (S.frozen i))
  rw [World.cell?_of_block hu, S.cellI (57 + B * 6 + 3) (by simp [isB]; omega) (by omega) (by omega) (by omega), hm]
theorem da_21 {w : World} {b eb lo hi : Nat} {pv : Value} {m : Nat → Int} {code : List (List InsD)} {pr : List Int} {t0 t1 t2 : Value} {ev : Nat → Int}
    (S : StIn w b lo hi pv m code pr) (he : w.heap[eb]? = some (evO t0 t1 t2 ev)) (h1 : b ≠ eb) (h2 : pv.ownBlock ≠ some eb) (h3 : eb < lo ∨ hi ≤ eb) {k : Nat} (hk : k < 6) {A B : Nat} (hA : A < 4) (hB4 : B < 4) (z : Int) {j : Nat} (hj : j ≤ 3) (hm : m (57 + B * 6 + 3) = j) : Calls Try.prog 58 #[.pointer (some ⟨b, 0, none⟩), .pointer (some ⟨b, 1 + k * 6, none⟩), insV 21 A B z, .pointer (some ⟨eb, 0, none⟩)] w (DoPost w b eb lo hi pv m code pr t0 t1 t2 ev ([.e 3 B] ++ (takeE m (57 + B * 6)).2.2 ++ [.e 4 (takeE m (57 + B * 6)).1, .e 5 (takeE m (57 + B * 6)).2.1, .m (rg k A) (takeE m (57 + B * 6)).1]) [] true) := by
  have hv : ∀ u, Below w.heap.size w u → u.heap[eb]? = some (evO t0 t1 t2 ev) := fun u hB => (hB.block eb (Array.getElem?_eq_some_iff.1 he).1).trans he
  obtain ⟨q1, q2, q3, q4⟩ := take_ed b eb hB4 hj m hm
  refine (do_21 b eb ⟨b, 1 + k * 6, none⟩ A B z w (fun u => (((putsB b _ (u.setCell ⟨eb, 3, none⟩ (.int .i64 B))).setCell ⟨eb, 4, none⟩ (.int .i64 (takeE m (57 + B * 6)).1)).setCell ⟨eb, 5, none⟩ (.int .i64 (takeE m (57 + B * 6)).2.1)).setCell ⟨b, rg k A, none⟩ (.int .i64 (takeE m (57 + B * 6)).1)) (fun B u v h => below_both (below_both (below_both (puts_both _ (below_both h _ _)) _ _) _ _) _ _) true (fun u hB => pass_recv b eb k A B z hA hB4 _ _ _ _ _ (takeL (57 + B * 6) j (m (57 + B * 6)) (m (57 + B * 6 + 1)) (m (57 + B * 6 + 2)) (m (57 + B * 6 + 5) == 1)).2.2 u (fun r hr => ⟨_, by rw [← q3]; exact (ed_st h1 h2 h3 _ q4 (S.later hB)).reg k r hk hr⟩) ((S.later hB).frozen) (ev_cells (hv u hB)).1 (ev_cells (hv u hB)).2.1 (ev_cells (hv u hB)).2.2.1 (ev_cells (hv u hB)).2.2.2 h1 (S.later hB).lt (fun u' hu => by rw [← q3]; exact take_call eb (S.later hB) hB4 hj hm u' hu))).mono ?_
  intro e w' h
  refine do_fin S he h1 h2 h3 _ (fun x hx => ?_) ?_ h
  · rcases List.mem_append.1 hx with hx | hx
    · rcases List.mem_append.1 hx with hx | hx
      · simp at hx; subst hx; simp [Ed.ok]
      · exact q4 x hx
    · simp at hx; rcases hx with rfl | rfl | rfl <;> simp [Ed.ok, rg] <;> omega
  · rw [ed_app, ed_app, q3]
    simp only [ed, v_reg hk hA]
theorem da_22 {w : World} {b eb lo hi : Nat} {pv : Value} {m : Nat → Int} {code : List (List InsD)} {pr : List Int} {t0 t1 t2 : Value} {ev : Nat → Int}
    (S : StIn w b lo hi pv m code pr) (he : w.heap[eb]? = some (evO t0 t1 t2 ev)) (h1 : b ≠ eb) (h2 : pv.ownBlock ≠ some eb) (h3 : eb < lo ∨ hi ≤ eb) {k : Nat} (hk : k < 6) {A B C : Nat} (hA : A < 4) (hB4 : B < 4) (hC : C < 4) {j : Nat} (hj : j ≤ 3) (hm : m (57 + B * 6 + 3) = j) : Calls Try.prog 58 #[.pointer (some ⟨b, 0, none⟩), .pointer (some ⟨b, 1 + k * 6, none⟩), insV 22 A B C, .pointer (some ⟨eb, 0, none⟩)] w (DoPost w b eb lo hi pv m code pr t0 t1 t2 ev ([.e 3 B] ++ (takeE m (57 + B * 6)).2.2 ++ [.e 4 (takeE m (57 + B * 6)).1, .e 5 (takeE m (57 + B * 6)).2.1, .m (rg k A) (takeE m (57 + B * 6)).1, .m (rg k C) (bitN ((takeE m (57 + B * 6)).2.1 == 1))]) [] true) := by
  have hv : ∀ u, Below w.heap.size w u → u.heap[eb]? = some (evO t0 t1 t2 ev) := fun u hB => (hB.block eb (Array.getElem?_eq_some_iff.1 he).1).trans he
  obtain ⟨q1, q2, q3, q4⟩ := take_ed b eb hB4 hj m hm
  refine (do_22 b eb ⟨b, 1 + k * 6, none⟩ A B C w (fun u => ((((putsB b _ (u.setCell ⟨eb, 3, none⟩ (.int .i64 B))).setCell ⟨eb, 4, none⟩ (.int .i64 (takeE m (57 + B * 6)).1)).setCell ⟨eb, 5, none⟩ (.int .i64 (takeE m (57 + B * 6)).2.1)).setCell ⟨b, rg k A, none⟩ (.int .i64 (takeE m (57 + B * 6)).1)).setCell ⟨b, rg k C, none⟩ (.int .i64 (bitN ((takeE m (57 + B * 6)).2.1 == 1)))) (fun B u v h => below_both (below_both (below_both (below_both (puts_both _ (below_both h _ _)) _ _) _ _) _ _) _ _) true (fun u hB => pass_poll b eb k A B C hC hA hB4 _ _ _ _ _ (takeL (57 + B * 6) j (m (57 + B * 6)) (m (57 + B * 6 + 1)) (m (57 + B * 6 + 2)) (m (57 + B * 6 + 5) == 1)).2.2 u (fun r hr => ⟨_, by rw [← q3]; exact (ed_st h1 h2 h3 _ q4 (S.later hB)).reg k r hk hr⟩) ((S.later hB).frozen) (ev_cells (hv u hB)).1 (ev_cells (hv u hB)).2.1 (ev_cells (hv u hB)).2.2.1 (ev_cells (hv u hB)).2.2.2 h1 (S.later hB).lt (fun u' hu => by rw [← q3]; exact take_call eb (S.later hB) hB4 hj hm u' hu))).mono ?_
  intro e w' h
  refine do_fin S he h1 h2 h3 _ (fun x hx => ?_) ?_ h
  · rcases List.mem_append.1 hx with hx | hx
    · rcases List.mem_append.1 hx with hx | hx
      · simp at hx; subst hx; simp [Ed.ok]
      · exact q4 x hx
    · simp at hx; rcases hx with rfl | rfl | rfl | rfl <;> simp [Ed.ok, rg] <;> omega
  · rw [ed_app, ed_app, q3]
    simp only [ed, v_reg hk hA, v_reg hk hC]
/-- What any instruction of sound code does, that need not wait. -/
theorem do_any {w : World} {b eb lo hi : Nat} {pv : Value} {m : Nat → Int} {code : List (List InsD)} {pr : List Int} {t0 t1 t2 : Value} {ev : Nat → Int}
    (S : StIn w b lo hi pv m code pr) (he : w.heap[eb]? = some (evO t0 t1 t2 ev)) (h1 : b ≠ eb) (h2 : pv.ownBlock ≠ some eb) (h3 : eb < lo ∨ hi ≤ eb) (hpl : pr.length ≤ 1000000) {k nt n : Nat} (hk : k < 6) (hnt : nt ≤ 6) (x : InsD) (hx : InsFit nt n x)
    (hch : ∀ c, c < 4 → 0 ≤ m (57 + c * 6 + 3) ∧ m (57 + c * 6 + 3) ≤ m (57 + c * 6 + 4) ∧ m (57 + c * 6 + 4) ≤ 3) (hb : blockedM m x = false) :
    Calls Try.prog 58 #[.pointer (some ⟨b, 0, none⟩), .pointer (some ⟨b, 1 + k * 6, none⟩), insV x.op x.a x.b x.c, .pointer (some ⟨eb, 0, none⟩)] w (DoPost w b eb lo hi pv m code pr t0 t1 t2 ev (doE m k x).1 (doT m k x) (doE m k x).2) := by
  obtain ⟨op, a, y, z⟩ := x
  match op, hx, hb with
  | 0, hx, _ => exact da_0 S he h1 h2 h3 hk a y z
  | 1, hx, _ =>
    obtain ⟨A, rfl, hA⟩ : Fit 4 a := hx
    exact da_1 S he h1 h2 h3 hk hA y z
  | 2, hx, _ =>
    obtain ⟨⟨A, rfl, hA⟩, ⟨B, rfl, hB⟩⟩ : Fit 4 a ∧ Fit 4 y := hx
    exact da_2 S he h1 h2 h3 hk hA hB z
  | 3, hx, _ =>
    obtain ⟨⟨A, rfl, hA⟩, ⟨B, rfl, hB⟩, ⟨C, rfl, hC⟩⟩ : Fit 4 a ∧ Fit 4 y ∧ Fit 4 z := hx
    exact da_3 S he h1 h2 h3 hk hA hB hC
  | 4, hx, _ =>
    obtain ⟨⟨A, rfl, hA⟩, ⟨B, rfl, hB⟩, ⟨C, rfl, hC⟩⟩ : Fit 4 a ∧ Fit 4 y ∧ Fit 4 z := hx
    exact da_4 S he h1 h2 h3 hk hA hB hC
  | 5, hx, _ =>
    obtain ⟨⟨A, rfl, hA⟩, ⟨B, rfl, hB⟩, ⟨C, rfl, hC⟩⟩ : Fit 4 a ∧ Fit 4 y ∧ Fit 4 z := hx
    exact da_5 S he h1 h2 h3 hk hA hB hC
  | 6, hx, _ =>
    obtain ⟨⟨A, rfl, hA⟩, ⟨B, rfl, hB⟩, ⟨C, rfl, hC⟩⟩ : Fit 4 a ∧ Fit 4 y ∧ Fit 4 z := hx
    exact da_6 S he h1 h2 h3 hk hA hB hC
  | 7, hx, _ =>
    obtain ⟨⟨A, rfl, hA⟩, ⟨B, rfl, hB⟩⟩ : Fit 4 a ∧ Fit 8 y := hx
    exact da_7 S he h1 h2 h3 hk hA hB z
  | 8, hx, _ =>
    obtain ⟨⟨A, rfl, hA⟩, ⟨B, rfl, hB⟩⟩ : Fit 8 a ∧ Fit 4 y := hx
    exact da_8 S he h1 h2 h3 hk hA hB z
  | 9, hx, _ =>
    obtain ⟨A, rfl, hA⟩ : Fit 4 a := hx
    obtain ⟨e3, e4, e5, eg⟩ := ev_cells he
    refine (do_9 eb k A y z hA hk _ w S hpl e4 eg h1 h2 h3).mono ?_
    rintro e w' ⟨rfl, pv', q1, q2, q3, q4⟩
    exact ⟨rfl, pv', q1, q2.trans (ed_ev (b := b) h1 [.e 4 (m (rg k A))] (by simp [Ed.ok]) he), q3, q4⟩
  | 10, hx, _ => exact da_10 S he h1 h2 h3 hk a y z
  | 11, hx, _ =>
    obtain ⟨⟨A, rfl, hA⟩, _⟩ : Fit 4 a ∧ Fit (n + 1) y := hx
    simp only [doE, Int.toNat_natCast]
    rcases hq : (m (rg k A) == 0) with _ | _
    · exact da_11n S he h1 h2 h3 hk hA y z hq
    · exact da_11y S he h1 h2 h3 hk hA y z (by simpa using hq)
  | 12, hx, _ =>
    obtain ⟨A, rfl, hA⟩ : Fit nt a := hx
    exact da_12 S he h1 h2 h3 hk (show A < 6 by omega) y z
  | 13, hx, _ =>
    obtain ⟨A, rfl, hA⟩ : Fit 4 a := hx
    exact da_13 S he h1 h2 h3 hk hA y z
  | 14, hx, _ =>
    obtain ⟨A, rfl, hA⟩ : Fit 4 a := hx
    simp only [doE, Int.toNat_natCast]
    rcases hq : (m (49 + A * 2) == 1) with _ | _
    · exact da_14n S he h1 h2 h3 hk hA y z hq
    · exact da_14y S he h1 h2 h3 hk hA y z hq
  | 15, hx, _ =>
    obtain ⟨A, rfl, hA⟩ : Fit 4 a := hx
    exact da_15 S he h1 h2 h3 hk hA y z
  | 16, hx, _ =>
    obtain ⟨A, rfl, hA⟩ : Fit 4 a := hx
    simp only [doE, Int.toNat_natCast]
    rcases hq : (m (49 + A * 2 + 1) == 0) with _ | _
    · exact da_16y S he h1 h2 h3 hk hA y z hq
    · exact da_16n S he h1 h2 h3 hk hA y z (by simpa using hq)
  | 17, hx, _ =>
    obtain ⟨⟨A, rfl, hA⟩, ⟨B, rfl, hB⟩⟩ : Fit 4 a ∧ Fit 4 y := hx
    exact da_17 S he h1 h2 h3 hk hA hB z
  | 18, hx, _ =>
    obtain ⟨⟨A, rfl, hA⟩, ⟨B, rfl, hB⟩⟩ : Fit 4 a ∧ Fit 4 y := hx
    exact da_18 S he h1 h2 h3 hk hA hB z
  | 19, hx, _ =>
    obtain ⟨⟨A, rfl, hA⟩, ⟨B, rfl, hB⟩, ⟨C, rfl, hC⟩⟩ : Fit 4 a ∧ Fit 4 y ∧ Fit 4 z := hx
    exact da_19 S he h1 h2 h3 hk hA hB hC
  | 20, hx, hb =>
    obtain ⟨⟨A, rfl, hA⟩, ⟨B, rfl, hB⟩⟩ : Fit 4 a ∧ Fit 4 y := hx
    obtain ⟨c1, c2, c3⟩ := hch A hA
    obtain ⟨j, hj⟩ : ∃ j : Nat, m (57 + A * 6 + 3) = j := ⟨_, (Int.toNat_of_nonneg c1).symm⟩
    simp only [doE, Int.toNat_natCast, hj]
    rcases hq : (m (57 + A * 6 + 5) == 1) with _ | _
    · have hne : m (57 + A * 6 + 3) ≠ m (57 + A * 6 + 4) := by
        intro e
        simp [blockedM, e] at hb
        simp [hb] at hq
      exact da_20y S he h1 h2 h3 hk hA hB z hq (by omega) hj
    · exact da_20n S he h1 h2 h3 hk hA hB z hq
  | 21, hx, _ =>
    obtain ⟨⟨A, rfl, hA⟩, ⟨B, rfl, hB⟩⟩ : Fit 4 a ∧ Fit 4 y := hx
    obtain ⟨c1, c2, c3⟩ := hch B hB
    exact da_21 S he h1 h2 h3 hk hA hB z (j := (m (57 + B * 6 + 3)).toNat) (by omega) (Int.toNat_of_nonneg c1).symm
  | 22, hx, _ =>
    obtain ⟨⟨A, rfl, hA⟩, ⟨B, rfl, hB⟩, ⟨C, rfl, hC⟩⟩ : Fit 4 a ∧ Fit 4 y ∧ Fit 4 z := hx
    obtain ⟨c1, c2, c3⟩ := hch B hB
    exact da_22 S he h1 h2 h3 hk hA hB hC (j := (m (57 + B * 6 + 3)).toNat) (by omega) (Int.toNat_of_nonneg c1).symm
  | 23, hx, _ =>
    obtain ⟨A, rfl, hA⟩ : Fit 4 a := hx
    exact da_23 S he h1 h2 h3 hk hA y z
  | 24, hx, _ =>
    obtain ⟨A, rfl, hA⟩ : Fit 4 a := hx
    simp only [doE, Int.toNat_natCast]
    by_cases hq : wrap64 (m (81 + A) + y) < 0
    · rw [if_pos hq]
      exact da_24n S he h1 h2 h3 hk hA y z hq
    · rw [if_neg hq]
      exact da_24y S he h1 h2 h3 hk hA y z hq
  | 25, hx, _ => exact da_25 S he h1 h2 h3 hk a y z
  | 26, hx, _ =>
    obtain ⟨⟨A, rfl, hA⟩, ⟨B, rfl, hB⟩⟩ : Fit 4 a ∧ Fit 4 y := hx
    simp only [doE, Int.toNat_natCast]
    rcases hq : (m (85 + B) == 0) with _ | _
    · exact da_26n S he h1 h2 h3 hk hA hB z hq
    · exact da_26y S he h1 h2 h3 hk hA hB z (by simpa using hq)
  | 27, hx, _ =>
    obtain ⟨A, rfl, hA⟩ : Fit 4 a := hx
    simp only [doE, Int.toNat_natCast]
    rcases hq : (m (85 + A) == 1) with _ | _
    · exact da_27n S he h1 h2 h3 hk hA y z hq
    · exact da_27y S he h1 h2 h3 hk hA y z (by simpa using hq)
  | (op + 28), hx, _ => exact absurd hx (by simp [InsFit])
end Go.Proofs.Ytfcfdneganknjaa
