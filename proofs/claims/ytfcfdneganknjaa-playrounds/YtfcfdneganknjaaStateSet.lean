/- Storing into a state. -/
import Derived.Test.YtfcfdneganknjaaStateCan2
import Derived.StillTailTactics
namespace Go.Proofs.Ytfcfdneganknjaa
set_option linter.unusedVariables false
set_option linter.unusedSimpArgs false
set_option maxRecDepth 100000
open Go.ChangeShapes Go.WideShapes Go.ChangeAt Go.RowKit

def upd (m : Nat → Int) (i : Nat) (v : Int) : Nat → Int := fun j => if j = i then v else m j
theorem upd_same (m : Nat → Int) (i : Nat) (v : Int) : upd m i v i = v := by simp [upd]
theorem upd_ne (m : Nat → Int) {i j : Nat} (v : Int) (h : j ≠ i) : upd m i v j = m j := by simp [upd, h]

theorem below_both {B : Nat} {w v : World} (h : Below B w v) (p : Addr) (x : Value) : Below B (w.setCell p x) (v.setCell p x) := by
  refine ⟨h.os, h.tape, h.output, ?_, fun k hk => ?_⟩
  · have := h.size; simpa using this
  · by_cases hp : k = p.block
    · subst hp
      simp only [World.setCell, Array.getElem?_modify, if_pos]
      rw [h.block _ hk]
    · have e1 : (v.setCell p x).heap[k]? = v.heap[k]? := Below.heap_setCell _ _ _ _ hp
      have e2 : (w.setCell p x).heap[k]? = w.heap[k]? := Below.heap_setCell _ _ _ _ hp
      rw [e1, e2]; exact h.block _ hk
theorem size_setCell (w : World) (p : Addr) (x : Value) : (w.setCell p x).heap.size = w.heap.size := by simp

theorem StIn.set {u : World} {b lo hi : Nat} {pv : Value} {m : Nat → Int} {code : List (List InsD)} {pr : List Int} (h : StIn u b lo hi pv m code pr) (i : Nat) (n : Int) (v : Value) (hv : v = valAt i n) (h1 : i ≠ 0) (h2 : i ≠ 89) : StIn (u.setCell ⟨b, i, none⟩ v) b lo hi pv (upd m i n) code pr := by
  obtain ⟨cs, a, cap, g1, g2, g3, g4, g5, g6⟩ := h.box
  have hk : ∀ k, k ≠ b → (u.setCell ⟨b, i, none⟩ v).heap[k]? = u.heap[k]? := fun k hk => Below.heap_setCell _ _ _ _ hk
  refine ⟨⟨cs.setIfInBounds i v, a, cap, stSet_block u b i v g1, by simpa using g2, ?_, ?_, fun j hj j0 j9 => ?_, g6.keep fun k k1 k2 => hk k ?_⟩, ?_, h.off, h.two, h.len, h.lens, by rw [size_setCell]; exact h.top⟩
  · rw [Array.getElem?_setIfInBounds_ne (by omega)]; exact g3
  · rw [Array.getElem?_setIfInBounds_ne (by omega)]; exact g4
  · by_cases e : j = i
    · subst e
      rw [Array.getElem?_setIfInBounds_self_of_lt (by omega), upd_same, hv]
    · rw [Array.getElem?_setIfInBounds_ne (by omega), upd_ne _ _ e]
      exact g5 j hj j0 j9
  · rcases h.off with h' | h' <;> omega
  · refine ⟨h.own.1, ?_⟩
    rcases h.own.2 with q | ⟨g, cap', cur, rfl, hb, hh, hr⟩
    · exact .inl q
    · have : g ≠ b := fun e => h.two (by simp [Value.ownBlock, e])
      exact .inr ⟨g, cap', cur, rfl, hb, (hk g this).trans hh, hr⟩

set_option maxHeartbeats 400000 in
theorem reckon_const (b k A : Nat) (y z : Int) (hA : A < 4) (v : Int) (w : World) (h1 : w.cell? ⟨b, 1 + k * 6 + 2 + A, none⟩ = some (.int .i64 v)) (hf : w.frozen? ⟨b, 1 + k * 6 + 2 + A, none⟩ = false) :
    Calls Try.prog 70 #[.pointer (some ⟨b, 1 + k * 6, none⟩), insV 1 A y z] w fun e w' => e = .returned (.tuple #[]) ∧ Below w.heap.size (w.setCell ⟨b, 1 + k * 6 + 2 + A, none⟩ (.int .i64 y)) w' := by
  have hA4 : (A : Int) < 4 := by omega
  have l1 := cell_lt h1
  go_enter Try.func70, Try.ntmps70
  go_wp2_with fail
  generalize hV : World.alloc w _ = V
  have hB : Below w.heap.size w V := by rw [← hV]; exact below_box _ _
  have hN : V.heap[w.heap.size]? = some (insO 1 A y z) := by rw [← hV]; exact heap_alloc_new _ _
  obtain ⟨n0, n1, n2, n3⟩ := cells4 hN
  rw [← hB.cell (p := ⟨b, 1 + k * 6 + 2 + A, none⟩) l1] at h1
  rw [← hB.frozen (p := ⟨b, 1 + k * 6 + 2 + A, none⟩) l1] at hf
  have HB := Lib.hid hB
  clear hV hB hN
  go_wp2_with fail
  go_region
  go_wp2
  first | go_end0 | refine bodyPost_ret (results_none rfl _ _ _) rfl ?_
  exact ⟨rfl, (below_both HB.out _ _).drew⟩
set_option maxHeartbeats 400000 in
theorem reckon_move (b k A : Nat) (B : Nat) (z : Int) (hB4 : B < 4) (x : Int) (hA : A < 4) (v : Int) (w : World) (h1 : w.cell? ⟨b, 1 + k * 6 + 2 + A, none⟩ = some (.int .i64 v)) (hf : w.frozen? ⟨b, 1 + k * 6 + 2 + A, none⟩ = false) (h2 : w.cell? ⟨b, 1 + k * 6 + 2 + B, none⟩ = some (.int .i64 x)) :
    Calls Try.prog 70 #[.pointer (some ⟨b, 1 + k * 6, none⟩), insV 2 A B z] w fun e w' => e = .returned (.tuple #[]) ∧ Below w.heap.size (w.setCell ⟨b, 1 + k * 6 + 2 + A, none⟩ (.int .i64 x)) w' := by
  have hA4 : (A : Int) < 4 := by omega
  have hB4 : (B : Int) < 4 := by omega
  have l1 := cell_lt h1
  go_enter Try.func70, Try.ntmps70
  go_wp2_with fail
  generalize hV : World.alloc w _ = V
  have hB : Below w.heap.size w V := by rw [← hV]; exact below_box _ _
  have hN : V.heap[w.heap.size]? = some (insO 2 A B z) := by rw [← hV]; exact heap_alloc_new _ _
  obtain ⟨n0, n1, n2, n3⟩ := cells4 hN
  rw [← hB.cell (p := ⟨b, 1 + k * 6 + 2 + A, none⟩) l1] at h1
  rw [← hB.frozen (p := ⟨b, 1 + k * 6 + 2 + A, none⟩) l1] at hf
  rw [← hB.cell (p := ⟨b, 1 + k * 6 + 2 + B, none⟩) l1] at h2
  have HB := Lib.hid hB
  clear hV hB hN
  go_wp2_with fail
  go_region
  go_wp2
  first | go_end0 | refine bodyPost_ret (results_none rfl _ _ _) rfl ?_
  exact ⟨rfl, (below_both HB.out _ _).drew⟩
set_option maxHeartbeats 400000 in
theorem reckon_add (b k A : Nat) (B C : Nat) (hB4 : B < 4) (hC4 : C < 4) (x y : Int) (hA : A < 4) (v : Int) (w : World) (h1 : w.cell? ⟨b, 1 + k * 6 + 2 + A, none⟩ = some (.int .i64 v)) (hf : w.frozen? ⟨b, 1 + k * 6 + 2 + A, none⟩ = false) (h2 : w.cell? ⟨b, 1 + k * 6 + 2 + B, none⟩ = some (.int .i64 x)) (h3 : w.cell? ⟨b, 1 + k * 6 + 2 + C, none⟩ = some (.int .i64 y)) :
    Calls Try.prog 70 #[.pointer (some ⟨b, 1 + k * 6, none⟩), insV 3 A B C] w fun e w' => e = .returned (.tuple #[]) ∧ Below w.heap.size (w.setCell ⟨b, 1 + k * 6 + 2 + A, none⟩ (.int .i64 (wrap64 (x + y)))) w' := by
  have hA4 : (A : Int) < 4 := by omega
  have hB4 : (B : Int) < 4 := by omega
  have hC4 : (C : Int) < 4 := by omega
  have l1 := cell_lt h1
  go_enter Try.func70, Try.ntmps70
  go_wp2_with fail
  generalize hV : World.alloc w _ = V
  have hB : Below w.heap.size w V := by rw [← hV]; exact below_box _ _
  have hN : V.heap[w.heap.size]? = some (insO 3 A B C) := by rw [← hV]; exact heap_alloc_new _ _
  obtain ⟨n0, n1, n2, n3⟩ := cells4 hN
  rw [← hB.cell (p := ⟨b, 1 + k * 6 + 2 + A, none⟩) l1] at h1
  rw [← hB.frozen (p := ⟨b, 1 + k * 6 + 2 + A, none⟩) l1] at hf
  rw [← hB.cell (p := ⟨b, 1 + k * 6 + 2 + B, none⟩) l1] at h2
  rw [← hB.cell (p := ⟨b, 1 + k * 6 + 2 + C, none⟩) l1] at h3
  have HB := Lib.hid hB
  clear hV hB hN
  go_wp2_with fail
  go_region
  go_wp2
  first | go_end0 | refine bodyPost_ret (results_none rfl _ _ _) rfl ?_
  exact ⟨rfl, (below_both HB.out _ _).drew⟩
set_option maxHeartbeats 400000 in
theorem reckon_sub (b k A : Nat) (B C : Nat) (hB4 : B < 4) (hC4 : C < 4) (x y : Int) (hA : A < 4) (v : Int) (w : World) (h1 : w.cell? ⟨b, 1 + k * 6 + 2 + A, none⟩ = some (.int .i64 v)) (hf : w.frozen? ⟨b, 1 + k * 6 + 2 + A, none⟩ = false) (h2 : w.cell? ⟨b, 1 + k * 6 + 2 + B, none⟩ = some (.int .i64 x)) (h3 : w.cell? ⟨b, 1 + k * 6 + 2 + C, none⟩ = some (.int .i64 y)) :
    Calls Try.prog 70 #[.pointer (some ⟨b, 1 + k * 6, none⟩), insV 4 A B C] w fun e w' => e = .returned (.tuple #[]) ∧ Below w.heap.size (w.setCell ⟨b, 1 + k * 6 + 2 + A, none⟩ (.int .i64 (wrap64 (x - y)))) w' := by
  have hA4 : (A : Int) < 4 := by omega
  have hB4 : (B : Int) < 4 := by omega
  have hC4 : (C : Int) < 4 := by omega
  have l1 := cell_lt h1
  go_enter Try.func70, Try.ntmps70
  go_wp2_with fail
  generalize hV : World.alloc w _ = V
  have hB : Below w.heap.size w V := by rw [← hV]; exact below_box _ _
  have hN : V.heap[w.heap.size]? = some (insO 4 A B C) := by rw [← hV]; exact heap_alloc_new _ _
  obtain ⟨n0, n1, n2, n3⟩ := cells4 hN
  rw [← hB.cell (p := ⟨b, 1 + k * 6 + 2 + A, none⟩) l1] at h1
  rw [← hB.frozen (p := ⟨b, 1 + k * 6 + 2 + A, none⟩) l1] at hf
  rw [← hB.cell (p := ⟨b, 1 + k * 6 + 2 + B, none⟩) l1] at h2
  rw [← hB.cell (p := ⟨b, 1 + k * 6 + 2 + C, none⟩) l1] at h3
  have HB := Lib.hid hB
  clear hV hB hN
  go_wp2_with fail
  go_region
  go_wp2
  first | go_end0 | refine bodyPost_ret (results_none rfl _ _ _) rfl ?_
  exact ⟨rfl, (below_both HB.out _ _).drew⟩
set_option maxHeartbeats 400000 in
theorem reckon_mul (b k A : Nat) (B C : Nat) (hB4 : B < 4) (hC4 : C < 4) (x y : Int) (hA : A < 4) (v : Int) (w : World) (h1 : w.cell? ⟨b, 1 + k * 6 + 2 + A, none⟩ = some (.int .i64 v)) (hf : w.frozen? ⟨b, 1 + k * 6 + 2 + A, none⟩ = false) (h2 : w.cell? ⟨b, 1 + k * 6 + 2 + B, none⟩ = some (.int .i64 x)) (h3 : w.cell? ⟨b, 1 + k * 6 + 2 + C, none⟩ = some (.int .i64 y)) :
    Calls Try.prog 70 #[.pointer (some ⟨b, 1 + k * 6, none⟩), insV 5 A B C] w fun e w' => e = .returned (.tuple #[]) ∧ Below w.heap.size (w.setCell ⟨b, 1 + k * 6 + 2 + A, none⟩ (.int .i64 (wrap64 (x * y)))) w' := by
  have hA4 : (A : Int) < 4 := by omega
  have hB4 : (B : Int) < 4 := by omega
  have hC4 : (C : Int) < 4 := by omega
  have l1 := cell_lt h1
  go_enter Try.func70, Try.ntmps70
  go_wp2_with fail
  generalize hV : World.alloc w _ = V
  have hB : Below w.heap.size w V := by rw [← hV]; exact below_box _ _
  have hN : V.heap[w.heap.size]? = some (insO 5 A B C) := by rw [← hV]; exact heap_alloc_new _ _
  obtain ⟨n0, n1, n2, n3⟩ := cells4 hN
  rw [← hB.cell (p := ⟨b, 1 + k * 6 + 2 + A, none⟩) l1] at h1
  rw [← hB.frozen (p := ⟨b, 1 + k * 6 + 2 + A, none⟩) l1] at hf
  rw [← hB.cell (p := ⟨b, 1 + k * 6 + 2 + B, none⟩) l1] at h2
  rw [← hB.cell (p := ⟨b, 1 + k * 6 + 2 + C, none⟩) l1] at h3
  have HB := Lib.hid hB
  clear hV hB hN
  go_wp2_with fail
  go_region
  go_wp2
  first | go_end0 | refine bodyPost_ret (results_none rfl _ _ _) rfl ?_
  exact ⟨rfl, (below_both HB.out _ _).drew⟩
set_option maxHeartbeats 400000 in
theorem reckon_less (b k A : Nat) (B C : Nat) (hB4 : B < 4) (hC4 : C < 4) (x y : Int) (hA : A < 4) (v : Int) (w : World) (h1 : w.cell? ⟨b, 1 + k * 6 + 2 + A, none⟩ = some (.int .i64 v)) (hf : w.frozen? ⟨b, 1 + k * 6 + 2 + A, none⟩ = false) (h2 : w.cell? ⟨b, 1 + k * 6 + 2 + B, none⟩ = some (.int .i64 x)) (h3 : w.cell? ⟨b, 1 + k * 6 + 2 + C, none⟩ = some (.int .i64 y)) :
    Calls Try.prog 70 #[.pointer (some ⟨b, 1 + k * 6, none⟩), insV 6 A B C] w fun e w' => e = .returned (.tuple #[]) ∧ Below w.heap.size (w.setCell ⟨b, 1 + k * 6 + 2 + A, none⟩ (.int .i64 (bitN (decide (x < y))))) w' := by
  have hA4 : (A : Int) < 4 := by omega
  have hB4 : (B : Int) < 4 := by omega
  have hC4 : (C : Int) < 4 := by omega
  have l1 := cell_lt h1
  go_enter Try.func70, Try.ntmps70
  go_wp2_with fail
  generalize hV : World.alloc w _ = V
  have hB : Below w.heap.size w V := by rw [← hV]; exact below_box _ _
  have hN : V.heap[w.heap.size]? = some (insO 6 A B C) := by rw [← hV]; exact heap_alloc_new _ _
  obtain ⟨n0, n1, n2, n3⟩ := cells4 hN
  rw [← hB.cell (p := ⟨b, 1 + k * 6 + 2 + A, none⟩) l1] at h1
  rw [← hB.frozen (p := ⟨b, 1 + k * 6 + 2 + A, none⟩) l1] at hf
  rw [← hB.cell (p := ⟨b, 1 + k * 6 + 2 + B, none⟩) l1] at h2
  rw [← hB.cell (p := ⟨b, 1 + k * 6 + 2 + C, none⟩) l1] at h3
  have HB := Lib.hid hB
  clear hV hB hN
  go_wp2_with fail
  refine wp_region_still_tail 19 (by kernel_rfl) (by kernel_rfl) ?_
  simp only [List.take_succ_cons, List.take_zero, List.drop_succ_cons, List.drop_zero]
  repeat still_step
  still_call ((number_any _ _).mono fun _ _ ⟨h1, h2⟩ => ⟨h1, h2.symm⟩)
  repeat still_step
  refine wpStill_nil ?_
  go_wp2
  first | go_end0 | refine bodyPost_ret (results_none rfl _ _ _) rfl ?_
  exact ⟨rfl, (below_both HB.out _ _).drew⟩
end Go.Proofs.Ytfcfdneganknjaa
