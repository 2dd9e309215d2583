/- What the laws of this seat stand on, part 6. -/
import Derived.Test.YtglafbajbiengaaGreatPa0
import Derived.Test.YtglafbajbiengaaGreatPa5
set_option linter.unusedVariables false
set_option linter.unusedSimpArgs false
set_option maxRecDepth 100000
set_option maxHeartbeats 40000000
namespace Go.Proofs.YtglafbajbiengaaGreat
open Go.ChangeShapes Go.WideShapes Go.ChangeAt Go.RowKit
def upd (m : Nat → Int) (i : Nat) (v : Int) : Nat → Int := fun j => if j = i then v else m j
theorem upd_same (m : Nat → Int) (i : Nat) (v : Int) : upd m i v i = v := by simp [upd]
theorem upd_ne (m : Nat → Int) {i j : Nat} (v : Int) (h : j ≠ i) : upd m i v j = m j := by simp [upd, h]
theorem below_both {B : Nat} {w v : World} (h : Below B w v) (p : Addr) (x : Value) : Below B (w.setCell p x) (v.setCell p x) := by
  refine ⟨h.os, h.tape, h.output, ?_, fun k hk => ?_⟩
  · have := h.size; simpa using this
  · by_cases hp : k = p.block
    · subst hp
      simp only [World.setCell, Array.getElem?_modify, if_pos]
      rw [h.block _ hk]
    · have e1 : (v.setCell p x).heap[k]? = v.heap[k]? := Below.heap_setCell _ _ _ _ hp
      have e2 : (w.setCell p x).heap[k]? = w.heap[k]? := Below.heap_setCell _ _ _ _ hp
      rw [e1, e2]; exact h.block _ hk
theorem StIn.set {u : World} {b lo hi : Nat} {pv : Value} {m : Nat → Int} {code : List (List InsD)} {pr : List Int} (h : StIn u b lo hi pv m code pr) (i : Nat) (n : Int) (v : Value) (hv : v = valAt i n) (h1 : i ≠ 0) (h2 : i ≠ 89) : StIn (u.setCell ⟨b, i, none⟩ v) b lo hi pv (upd m i n) code pr := by
  obtain ⟨cs, a, cap, g1, g2, g3, g4, g5, g6⟩ := h.box
  have hk : ∀ k, k ≠ b → (u.setCell ⟨b, i, none⟩ v).heap[k]? = u.heap[k]? := fun k hk => Below.heap_setCell _ _ _ _ hk
  refine ⟨⟨cs.setIfInBounds i v, a, cap, stSet_block u b i v g1, by simpa using g2, ?_, ?_, fun j hj j0 j9 => ?_, g6.keep fun k k1 k2 => hk k ?_⟩, ?_, h.off, h.two, h.len, h.lens, by rw [size_setCell]; exact h.top⟩
  · rw [Array.getElem?_setIfInBounds_ne (by omega)]; exact g3
  · rw [Array.getElem?_setIfInBounds_ne (by omega)]; exact g4
  · by_cases e : j = i
    · subst e
      rw [Array.getElem?_setIfInBounds_self_of_lt (by omega), upd_same, hv]
    · rw [Array.getElem?_setIfInBounds_ne (by omega), upd_ne _ _ e]
      exact g5 j hj j0 j9
  · rcases h.off with h' | h' <;> omega
  · refine ⟨h.own.1, ?_⟩
    rcases h.own.2 with q | ⟨g, cap', cur, rfl, hb, hh, hr⟩
    · exact .inl q
    · have : g ≠ b := fun e => h.two (by simp [Value.ownBlock, e])
      exact .inr ⟨g, cap', cur, rfl, hb, (hk g this).trans hh, hr⟩
theorem reckon_const (b k A : Nat) (y z : Int) (hA : A < 4) (v : Int) (w : World) (h1 : w.cell? ⟨b, 1 + k * 6 + 2 + A, none⟩ = some (.int .i64 v)) (hf : w.frozen? ⟨b, 1 + k * 6 + 2 + A, none⟩ = false) :
    Calls Tryz.prog 93 #[.pointer (some ⟨b, 1 + k * 6, none⟩), insV 1 A y z] w fun e w' => e = .returned (.tuple #[]) ∧ Below w.heap.size (w.setCell ⟨b, 1 + k * 6 + 2 + A, none⟩ (.int .i64 y)) w' := by
  have hA4 : (A : Int) < 4 := by omega
  have l1 := cell_lt h1
  go_enter Tryz.func93, Tryz.ntmps93
  go_wp2_with fail
  generalize hV : World.alloc w _ = V
  have hB : Below w.heap.size w V := by rw [← hV]; exact below_box _ _
  have hN : V.heap[w.heap.size]? = some (insO 1 A y z) := by rw [← hV]; exact heap_alloc_new _ _
  obtain ⟨n0, n1, n2, n3⟩ := cells4 hN
  rw [← hB.cell (p := ⟨b, 1 + k * 6 + 2 + A, none⟩) l1] at h1
  rw [← hB.frozen (p := ⟨b, 1 + k * 6 + 2 + A, none⟩) l1] at hf
  have HB := Lib.hid hB
  clear hV hB hN
  go_wp2_with fail
  go_region
  go_wp2
  first | go_end0 | refine bodyPost_ret (results_none rfl _ _ _) rfl ?_
  exact ⟨rfl, (below_both HB.out _ _).drew⟩
theorem reckon_move (b k A : Nat) (B : Nat) (z : Int) (hB4 : B < 4) (x : Int) (hA : A < 4) (v : Int) (w : World) (h1 : w.cell? ⟨b, 1 + k * 6 + 2 + A, none⟩ = some (.int .i64 v)) (hf : w.frozen? ⟨b, 1 + k * 6 + 2 + A, none⟩ = false) (h2 : w.cell? ⟨b, 1 + k * 6 + 2 + B, none⟩ = some (.int .i64 x)) :
    Calls Tryz.prog 93 #[.pointer (some ⟨b, 1 + k * 6, none⟩), insV 2 A B z] w fun e w' => e = .returned (.tuple #[]) ∧ Below w.heap.size (w.setCell ⟨b, 1 + k * 6 + 2 + A, none⟩ (.int .i64 x)) w' := by
  have hA4 : (A : Int) < 4 := by omega
  have hB4 : (B : Int) < 4 := by omega
  have l1 := cell_lt h1
  go_enter Tryz.func93, Tryz.ntmps93
  go_wp2_with fail
  generalize hV : World.alloc w _ = V
  have hB : Below w.heap.size w V := by rw [← hV]; exact below_box _ _
  have hN : V.heap[w.heap.size]? = some (insO 2 A B z) := by rw [← hV]; exact heap_alloc_new _ _
  obtain ⟨n0, n1, n2, n3⟩ := cells4 hN
  rw [← hB.cell (p := ⟨b, 1 + k * 6 + 2 + A, none⟩) l1] at h1
  rw [← hB.frozen (p := ⟨b, 1 + k * 6 + 2 + A, none⟩) l1] at hf
  rw [← hB.cell (p := ⟨b, 1 + k * 6 + 2 + B, none⟩) l1] at h2
  have HB := Lib.hid hB
  clear hV hB hN
  go_wp2_with fail
  go_region
  go_wp2
  first | go_end0 | refine bodyPost_ret (results_none rfl _ _ _) rfl ?_
  exact ⟨rfl, (below_both HB.out _ _).drew⟩
theorem reckon_add (b k A : Nat) (B C : Nat) (hB4 : B < 4) (hC4 : C < 4) (x y : Int) (hA : A < 4) (v : Int) (w : World) (h1 : w.cell? ⟨b, 1 + k * 6 + 2 + A, none⟩ = some (.int .i64 v)) (hf : w.frozen? ⟨b, 1 + k * 6 + 2 + A, none⟩ = false) (h2 : w.cell? ⟨b, 1 + k * 6 + 2 + B, none⟩ = some (.int .i64 x)) (h3 : w.cell? ⟨b, 1 + k * 6 + 2 + C, none⟩ = some (.int .i64 y)) :
    Calls Tryz.prog 93 #[.pointer (some ⟨b, 1 + k * 6, none⟩), insV 3 A B C] w fun e w' => e = .returned (.tuple #[]) ∧ Below w.heap.size (w.setCell ⟨b, 1 + k * 6 + 2 + A, none⟩ (.int .i64 (wrap64 (x + y)))) w' := by
  have hA4 : (A : Int) < 4 := by omega
  have hB4 : (B : Int) < 4 := by omega
  have hC4 : (C : Int) < 4 := by omega
  have l1 := cell_lt h1
  go_enter Tryz.func93, Tryz.ntmps93
  go_wp2_with fail
  generalize hV : World.alloc w _ = V
  have hB : Below w.heap.size w V := by rw [← hV]; exact below_box _ _
  have hN : V.heap[w.heap.size]? = some (insO 3 A B C) := by rw [← hV]; exact heap_alloc_new _ _
  obtain ⟨n0, n1, n2, n3⟩ := cells4 hN
  rw [← hB.cell (p := ⟨b, 1 + k * 6 + 2 + A, none⟩) l1] at h1
  rw [← hB.frozen (p := ⟨b, 1 + k * 6 + 2 + A, none⟩) l1] at hf
  rw [← hB.cell (p := ⟨b, 1 + k * 6 + 2 + B, none⟩) l1] at h2
  rw [← hB.cell (p := ⟨b, 1 + k * 6 + 2 + C, none⟩) l1] at h3
  have HB := Lib.hid hB
  clear hV hB hN
  go_wp2_with fail
  go_region
  go_wp2
  first | go_end0 | refine bodyPost_ret (results_none rfl _ _ _) rfl ?_
  exact ⟨rfl, (below_both HB.out _ _).drew⟩
theorem reckon_sub (b k A : Nat) (B C : Nat) (hB4 : B < 4) (hC4 : C < 4) (x y : Int) (hA : A < 4) (v : Int) (w : World) (h1 : w.cell? ⟨b, 1 + k * 6 + 2 + A, none⟩ = some (.int .i64 v)) (hf : w.frozen? ⟨b, 1 + k * 6 + 2 + A, none⟩ = false) (h2 : w.cell? ⟨b, 1 + k * 6 + 2 + B, none⟩ = some (.int .i64 x)) (h3 : w.cell? ⟨b, 1 + k * 6 + 2 + C, none⟩ = some (.int .i64 y)) :
    Calls Tryz.prog 93 #[.pointer (some ⟨b, 1 + k * 6, none⟩), insV 4 A B C] w fun e w' => e = .returned (.tuple #[]) ∧ Below w.heap.size (w.setCell ⟨b, 1 + k * 6 + 2 + A, none⟩ (.int .i64 (wrap64 (x - y)))) w' := by
  have hA4 : (A : Int) < 4 := by omega
  have hB4 : (B : Int) < 4 := by omega
  have hC4 : (C : Int) < 4 := by omega
  have l1 := cell_lt h1
  go_enter Tryz.func93, Tryz.ntmps93
  go_wp2_with fail
  generalize hV : World.alloc w _ = V
  have hB : Below w.heap.size w V := by rw [← hV]; exact below_box _ _
  have hN : V.heap[w.heap.size]? = some (insO 4 A B C) := by rw [← hV]; exact heap_alloc_new _ _
  obtain ⟨n0, n1, n2, n3⟩ := cells4 hN
  rw [← hB.cell (p := ⟨b, 1 + k * 6 + 2 + A, none⟩) l1] at h1
  rw [← hB.frozen (p := ⟨b, 1 + k * 6 + 2 + A, none⟩) l1] at hf
  rw [← hB.cell (p := ⟨b, 1 + k * 6 + 2 + B, none⟩) l1] at h2
  rw [← hB.cell (p := ⟨b, 1 + k * 6 + 2 + C, none⟩) l1] at h3
  have HB := Lib.hid hB
  clear hV hB hN
  go_wp2_with fail
  go_region
  go_wp2
  first | go_end0 | refine bodyPost_ret (results_none rfl _ _ _) rfl ?_
  exact ⟨rfl, (below_both HB.out _ _).drew⟩
theorem reckon_mul (b k A : Nat) (B C : Nat) (hB4 : B < 4) (hC4 : C < 4) (x y : Int) (hA : A < 4) (v : Int) (w : World) (h1 : w.cell? ⟨b, 1 + k * 6 + 2 + A, none⟩ = some (.int .i64 v)) (hf : w.frozen? ⟨b, 1 + k * 6 + 2 + A, none⟩ = false) (h2 : w.cell? ⟨b, 1 + k * 6 + 2 + B, none⟩ = some (.int .i64 x)) (h3 : w.cell? ⟨b, 1 + k * 6 + 2 + C, none⟩ = some (.int .i64 y)) :
    Calls Tryz.prog 93 #[.pointer (some ⟨b, 1 + k * 6, none⟩), insV 5 A B C] w fun e w' => e = .returned (.tuple #[]) ∧ Below w.heap.size (w.setCell ⟨b, 1 + k * 6 + 2 + A, none⟩ (.int .i64 (wrap64 (x * y)))) w' := by
  have hA4 : (A : Int) < 4 := by omega
  have hB4 : (B : Int) < 4 := by omega
  have hC4 : (C : Int) < 4 := by omega
  have l1 := cell_lt h1
  go_enter Tryz.func93, Tryz.ntmps93
  go_wp2_with fail
  generalize hV : World.alloc w _ = V
  have hB : Below w.heap.size w V := by rw [← hV]; exact below_box _ _
  have hN : V.heap[w.heap.size]? = some (insO 5 A B C) := by rw [← hV]; exact heap_alloc_new _ _
  obtain ⟨n0, n1, n2, n3⟩ := cells4 hN
  rw [← hB.cell (p := ⟨b, 1 + k * 6 + 2 + A, none⟩) l1] at h1
  rw [← hB.frozen (p := ⟨b, 1 + k * 6 + 2 + A, none⟩) l1] at hf
  rw [← hB.cell (p := ⟨b, 1 + k * 6 + 2 + B, none⟩) l1] at h2
  rw [← hB.cell (p := ⟨b, 1 + k * 6 + 2 + C, none⟩) l1] at h3
  have HB := Lib.hid hB
  clear hV hB hN
  go_wp2_with fail
  go_region
  go_wp2
  first | go_end0 | refine bodyPost_ret (results_none rfl _ _ _) rfl ?_
  exact ⟨rfl, (below_both HB.out _ _).drew⟩
theorem reckon_less (b k A : Nat) (B C : Nat) (hB4 : B < 4) (hC4 : C < 4) (x y : Int) (hA : A < 4) (v : Int) (w : World) (h1 : w.cell? ⟨b, 1 + k * 6 + 2 + A, none⟩ = some (.int .i64 v)) (hf : w.frozen? ⟨b, 1 + k * 6 + 2 + A, none⟩ = false) (h2 : w.cell? ⟨b, 1 + k * 6 + 2 + B, none⟩ = some (.int .i64 x)) (h3 : w.cell? ⟨b, 1 + k * 6 + 2 + C, none⟩ = some (.int .i64 y)) :
    Calls Tryz.prog 93 #[.pointer (some ⟨b, 1 + k * 6, none⟩), insV 6 A B C] w fun e w' => e = .returned (.tuple #[]) ∧ Below w.heap.size (w.setCell ⟨b, 1 + k * 6 + 2 + A, none⟩ (.int .i64 (bitN (decide (x < y))))) w' := by
  have hA4 : (A : Int) < 4 := by omega
  have hB4 : (B : Int) < 4 := by omega
  have hC4 : (C : Int) < 4 := by omega
  have l1 := cell_lt h1
  go_enter Tryz.func93, Tryz.ntmps93
  go_wp2_with fail
  generalize hV : World.alloc w _ = V
  have hB : Below w.heap.size w V := by rw [← hV]; exact below_box _ _
  have hN : V.heap[w.heap.size]? = some (insO 6 A B C) := by rw [← hV]; exact heap_alloc_new _ _
  obtain ⟨n0, n1, n2, n3⟩ := cells4 hN
  rw [← hB.cell (p := ⟨b, 1 + k * 6 + 2 + A, none⟩) l1] at h1
  rw [← hB.frozen (p := ⟨b, 1 + k * 6 + 2 + A, none⟩) l1] at hf
  rw [← hB.cell (p := ⟨b, 1 + k * 6 + 2 + B, none⟩) l1] at h2
  rw [← hB.cell (p := ⟨b, 1 + k * 6 + 2 + C, none⟩) l1] at h3
  have HB := Lib.hid hB
  clear hV hB hN
  go_wp2_with fail
  refine wp_region_still_tail 19 (by kernel_rfl) (by kernel_rfl) ?_
  simp only [List.take_succ_cons, List.take_zero, List.drop_succ_cons, List.drop_zero]
  repeat still_step
  still_call ((number_any _ _).mono fun _ _ ⟨h1, h2⟩ => ⟨h1, h2.symm⟩)
  repeat still_step
  refine wpStill_nil ?_
  go_wp2
  first | go_end0 | refine bodyPost_ret (results_none rfl _ _ _) rfl ?_
  exact ⟨rfl, (below_both HB.out _ _).drew⟩
theorem begin_any (b o : Nat) (t : Bool) (w : World) (h1 : w.cell? ⟨b, o, none⟩ = some (.bool t)) (hf : w.frozen? ⟨b, o, none⟩ = false)  :
    Calls Tryz.prog 96 #[.pointer (some ⟨b, o, none⟩)] w fun e w' => e = .returned (.bool (!t)) ∧ Below w.heap.size (w.setCell ⟨b, o, none⟩ (.bool true)) w' := by
  go_enter Tryz.func96, Tryz.ntmps96
  go_wp2
  go_ret
  exact ⟨rfl, Below.refl _ _⟩
theorem change_lock (b o : Nat) (t : Bool) (w : World) (h1 : w.cell? ⟨b, o, none⟩ = some (.bool t)) (hf : w.frozen? ⟨b, o, none⟩ = false)  :
    Calls Tryz.prog 97 #[.pointer (some ⟨b, o, none⟩), .int .u8 13] w fun e w' => e = .returned (.bool true) ∧ Below w.heap.size (w.setCell ⟨b, o, none⟩ (.bool true)) w' := by
  go_enter Tryz.func97, Tryz.ntmps97
  go_wp2
  go_ret
  exact ⟨rfl, Below.refl _ _⟩
theorem change_rlock (b o : Nat) (r : Int) (w : World) (h1 : w.cell? ⟨b, o + 1, none⟩ = some (.int .i64 r)) (hf : w.frozen? ⟨b, o + 1, none⟩ = false)  :
    Calls Tryz.prog 97 #[.pointer (some ⟨b, o, none⟩), .int .u8 15] w fun e w' => e = .returned (.bool true) ∧ Below w.heap.size (w.setCell ⟨b, o + 1, none⟩ (.int .i64 (wrap64 (r + 1)))) w' := by
  go_enter Tryz.func97, Tryz.ntmps97
  go_wp2
  go_ret
  exact ⟨rfl, Below.refl _ _⟩
theorem change_unlock_yes (b o : Nat)  (w : World) (h1 : w.cell? ⟨b, o, none⟩ = some (.bool true)) (hf : w.frozen? ⟨b, o, none⟩ = false)  :
    Calls Tryz.prog 97 #[.pointer (some ⟨b, o, none⟩), .int .u8 14] w fun e w' => e = .returned (.bool true) ∧ Below w.heap.size (w.setCell ⟨b, o, none⟩ (.bool false)) w' := by
  go_enter Tryz.func97, Tryz.ntmps97
  go_wp2
  go_ret
  exact ⟨rfl, Below.refl _ _⟩
theorem change_unlock_no (b o : Nat)  (w : World) (h1 : w.cell? ⟨b, o, none⟩ = some (.bool false))  :
    Calls Tryz.prog 97 #[.pointer (some ⟨b, o, none⟩), .int .u8 14] w fun e w' => e = .returned (.bool false) ∧ Below w.heap.size w w' := by
  go_enter Tryz.func97, Tryz.ntmps97
  go_wp2
  go_ret
  exact ⟨rfl, Below.refl _ _⟩
theorem change_runlock_yes (b o : Nat) (r : Int) (w : World) (h1 : w.cell? ⟨b, o + 1, none⟩ = some (.int .i64 r)) (hf : w.frozen? ⟨b, o + 1, none⟩ = false) (hr : (r == 0) = false) :
    Calls Tryz.prog 97 #[.pointer (some ⟨b, o, none⟩), .int .u8 16] w fun e w' => e = .returned (.bool true) ∧ Below w.heap.size (w.setCell ⟨b, o + 1, none⟩ (.int .i64 (wrap64 (r - 1)))) w' := by
  go_enter Tryz.func97, Tryz.ntmps97
  go_wp2
  go_ret
  exact ⟨rfl, Below.refl _ _⟩
theorem change_runlock_no (b o : Nat) (r : Int) (w : World) (h1 : w.cell? ⟨b, o + 1, none⟩ = some (.int .i64 0))  :
    Calls Tryz.prog 97 #[.pointer (some ⟨b, o, none⟩), .int .u8 16] w fun e w' => e = .returned (.bool false) ∧ Below w.heap.size w w' := by
  go_enter Tryz.func97, Tryz.ntmps97
  go_wp2
  go_ret
  exact ⟨rfl, Below.refl _ _⟩
theorem grow_yes (b o : Nat) (g n : Int) (w : World) (h1 : w.cell? ⟨b, o, none⟩ = some (.int .i64 g)) (hf : w.frozen? ⟨b, o, none⟩ = false) (hr : ¬ wrap64 (g + n) < 0) :
    Calls Tryz.prog 99 #[.pointer (some ⟨b, o, none⟩), .int .i64 n] w fun e w' => e = .returned (.bool true) ∧ Below w.heap.size (w.setCell ⟨b, o, none⟩ (.int .i64 (wrap64 (g + n)))) w' := by
  go_enter Tryz.func99, Tryz.ntmps99
  go_wp2
  go_ret
  exact ⟨rfl, Below.refl _ _⟩
theorem grow_no (b o : Nat) (g n : Int) (w : World) (h1 : w.cell? ⟨b, o, none⟩ = some (.int .i64 g)) (hr : wrap64 (g + n) < 0) :
    Calls Tryz.prog 99 #[.pointer (some ⟨b, o, none⟩), .int .i64 n] w fun e w' => e = .returned (.bool false) ∧ Below w.heap.size w w' := by
  go_enter Tryz.func99, Tryz.ntmps99
  go_wp2
  go_ret
  exact ⟨rfl, Below.refl _ _⟩
theorem onceBegin_yes (b o : Nat)  (w : World) (h1 : w.cell? ⟨b, o, none⟩ = some (.int .u8 0)) (hf : w.frozen? ⟨b, o, none⟩ = false)  :
    Calls Tryz.prog 101 #[.pointer (some ⟨b, o, none⟩)] w fun e w' => e = .returned (.bool true) ∧ Below w.heap.size (w.setCell ⟨b, o, none⟩ (.int .u8 1)) w' := by
  go_enter Tryz.func101, Tryz.ntmps101
  go_wp2
  go_ret
  exact ⟨rfl, Below.refl _ _⟩
theorem onceBegin_no (b o : Nat) (g : Int) (w : World) (h1 : w.cell? ⟨b, o, none⟩ = some (.int .u8 g)) (hg : (g == 0) = false) :
    Calls Tryz.prog 101 #[.pointer (some ⟨b, o, none⟩)] w fun e w' => e = .returned (.bool false) ∧ Below w.heap.size w w' := by
  go_enter Tryz.func101, Tryz.ntmps101
  go_wp2
  go_ret
  exact ⟨rfl, Below.refl _ _⟩
theorem onceEnd_yes (b o : Nat)  (w : World) (h1 : w.cell? ⟨b, o, none⟩ = some (.int .u8 1)) (hf : w.frozen? ⟨b, o, none⟩ = false)  :
    Calls Tryz.prog 102 #[.pointer (some ⟨b, o, none⟩)] w fun e w' => e = .returned (.bool true) ∧ Below w.heap.size (w.setCell ⟨b, o, none⟩ (.int .u8 2)) w' := by
  go_enter Tryz.func102, Tryz.ntmps102
  go_wp2
  go_ret
  exact ⟨rfl, Below.refl _ _⟩
theorem onceEnd_no (b o : Nat) (g : Int) (w : World) (h1 : w.cell? ⟨b, o, none⟩ = some (.int .u8 g)) (hg : (g == 1) = false) :
    Calls Tryz.prog 102 #[.pointer (some ⟨b, o, none⟩)] w fun e w' => e = .returned (.bool false) ∧ Below w.heap.size w w' := by
  go_enter Tryz.func102, Tryz.ntmps102
  go_wp2
  go_ret
  exact ⟨rfl, Below.refl _ _⟩
theorem close_any (b o : Nat) (t : Bool) (w : World) (h1 : w.cell? ⟨b, o + 5, none⟩ = some (.bool t)) (hf : w.frozen? ⟨b, o + 5, none⟩ = false)  :
    Calls Tryz.prog 127 #[.pointer (some ⟨b, o, none⟩)] w fun e w' => e = .returned (.bool (!t)) ∧ Below w.heap.size (w.setCell ⟨b, o + 5, none⟩ (.bool true)) w' := by
  go_enter Tryz.func127, Tryz.ntmps127
  go_wp2
  go_ret
  exact ⟨rfl, Below.refl _ _⟩
theorem put_no (b o : Nat) (n : Int) (w : World) (h1 : w.cell? ⟨b, o + 5, none⟩ = some (.bool true))  :
    Calls Tryz.prog 125 #[.pointer (some ⟨b, o, none⟩), .int .i64 n] w fun e w' => e = .returned (.bool false) ∧ Below w.heap.size w w' := by
  go_enter Tryz.func125, Tryz.ntmps125
  go_wp2
  go_ret
  exact ⟨rfl, Below.refl _ _⟩
theorem put_yes (b o j : Nat) (hj : j < 3) (n v : Int) (w : World) (h1 : w.cell? ⟨b, o + 5, none⟩ = some (.bool false)) (h2 : w.cell? ⟨b, o + 3, none⟩ = some (.int .i64 j)) (h3 : w.cell? ⟨b, o + j, none⟩ = some (.int .i64 v)) (hf : ∀ i, w.frozen? ⟨b, i, none⟩ = false) :
    Calls Tryz.prog 125 #[.pointer (some ⟨b, o, none⟩), .int .i64 n] w fun e w' => e = .returned (.bool true) ∧ Below w.heap.size ((w.setCell ⟨b, o + j, none⟩ (.int .i64 n)).setCell ⟨b, o + 3, none⟩ (.int .i64 ((j : Int) + 1))) w' := by
  have hj3 : (j : Int) < 3 := by omega
  go_enter Tryz.func125, Tryz.ntmps125
  go_wp2_with fail
  go_region
  have hc3 : (w.setCell ⟨b, o + j, none⟩ (.int .i64 n)).cell? ⟨b, o + 3, none⟩ = some (.int .i64 j) := by
    rw [World.cell?_setCell_other _ _ _ _ (by simp <;> omega)]; exact h2
  go_wp2
  go_ret
  exact ⟨rfl, (Below.refl _ _).drew⟩
theorem take_none (b o : Nat) (w : World) (h1 : w.cell? ⟨b, o + 3, none⟩ = some (.int .i64 0)) (h2 : w.cell? ⟨b, o + 5, none⟩ = some (.bool false)) :
    Calls Tryz.prog 126 #[.pointer (some ⟨b, o, none⟩)] w fun e w' => e = .returned (.tuple #[.int .i64 0, .int .i64 0]) ∧ Below w.heap.size w w' := by
  go_enter Tryz.func126, Tryz.ntmps126
  go_wp2
  go_ret2
  exact ⟨rfl, Below.refl _ _⟩
theorem take_over (b o : Nat) (w : World) (h1 : w.cell? ⟨b, o + 3, none⟩ = some (.int .i64 0)) (h2 : w.cell? ⟨b, o + 5, none⟩ = some (.bool true)) :
    Calls Tryz.prog 126 #[.pointer (some ⟨b, o, none⟩)] w fun e w' => e = .returned (.tuple #[.int .i64 0, .int .i64 2]) ∧ Below w.heap.size w w' := by
  go_enter Tryz.func126, Tryz.ntmps126
  go_wp2
  go_ret2
  exact ⟨rfl, Below.refl _ _⟩
theorem info_int1 : (Tryz.prog.info? 3).map (·.size) = some 1 := by kernel_rfl
theorem take_1 (b o : Nat) (x y z : Int) (w : World) (h1 : w.cell? ⟨b, o + 3, none⟩ = some (.int .i64 1)) (h2 : w.cell? ⟨b, o, none⟩ = some (.int .i64 x)) (h3 : w.cell? ⟨b, o + 1, none⟩ = some (.int .i64 y)) (h4 : w.cell? ⟨b, o + 2, none⟩ = some (.int .i64 z)) (hf : ∀ i, w.frozen? ⟨b, i, none⟩ = false) :
    Calls Tryz.prog 126 #[.pointer (some ⟨b, o, none⟩)] w fun e w' => e = .returned (.tuple #[.int .i64 x, .int .i64 1]) ∧ Below w.heap.size (w.setCell ⟨b, o + 3, none⟩ (.int .i64 0)) w' := by
  have hcp : (Builtin.copy_ #[23, 23] 3 #[.slice (some ⟨b, o, none⟩) 3 3, .slice (some ⟨b, o + 1, none⟩) 0 2]).run Tryz.prog w.drew = .ok (.int .i64 0) (w).drew := by
    exact run_copy_none w.drew _ _ _ 3 _ _ _ _ _ _ Tryz.underlying23 info_int1 rfl
  go_enter Tryz.func126, Tryz.ntmps126
  go_wp2_with fail
  go_region
  go_wp2
  go_ret2
  exact ⟨rfl, (Below.refl _ _).drew⟩
theorem take_2 (b o : Nat) (x y z : Int) (w : World) (h1 : w.cell? ⟨b, o + 3, none⟩ = some (.int .i64 2)) (h2 : w.cell? ⟨b, o, none⟩ = some (.int .i64 x)) (h3 : w.cell? ⟨b, o + 1, none⟩ = some (.int .i64 y)) (h4 : w.cell? ⟨b, o + 2, none⟩ = some (.int .i64 z)) (hf : ∀ i, w.frozen? ⟨b, i, none⟩ = false) :
    Calls Tryz.prog 126 #[.pointer (some ⟨b, o, none⟩)] w fun e w' => e = .returned (.tuple #[.int .i64 x, .int .i64 1]) ∧ Below w.heap.size ((w.setCell ⟨b, o, none⟩ (.int .i64 y)).setCell ⟨b, o + 3, none⟩ (.int .i64 1)) w' := by
  have hcp : (Builtin.copy_ #[23, 23] 3 #[.slice (some ⟨b, o, none⟩) 3 3, .slice (some ⟨b, o + 1, none⟩) 1 2]).run Tryz.prog w.drew = .ok (.int .i64 1) ((w.setCell ⟨b, o, none⟩ (.int .i64 y))).drew := by
    have := run_copy_cells (P := Tryz.prog) w.drew 23 23 3 3 b o 3 3 ⟨b, o + 1, none⟩ 1 2 [.int .i64 y] Tryz.underlying23 info_int1 rfl (fun j v hj => by match j, hj with | 0, hj => simpa using hj ▸ h3) (fun j hj => by match j, hj with | 0, hj => simpa using congrArg Option.isSome h2) (fun j hj => hf _) (by simp [Value.oneCell'])
    exact this
  go_enter Tryz.func126, Tryz.ntmps126
  go_wp2_with fail
  go_region
  go_wp2
  go_ret2
  exact ⟨rfl, (Below.refl _ _).drew⟩
theorem take_3 (b o : Nat) (x y z : Int) (w : World) (h1 : w.cell? ⟨b, o + 3, none⟩ = some (.int .i64 3)) (h2 : w.cell? ⟨b, o, none⟩ = some (.int .i64 x)) (h3 : w.cell? ⟨b, o + 1, none⟩ = some (.int .i64 y)) (h4 : w.cell? ⟨b, o + 2, none⟩ = some (.int .i64 z)) (hf : ∀ i, w.frozen? ⟨b, i, none⟩ = false) :
    Calls Tryz.prog 126 #[.pointer (some ⟨b, o, none⟩)] w fun e w' => e = .returned (.tuple #[.int .i64 x, .int .i64 1]) ∧ Below w.heap.size (((w.setCell ⟨b, o, none⟩ (.int .i64 y)).setCell ⟨b, o + 1, none⟩ (.int .i64 z)).setCell ⟨b, o + 3, none⟩ (.int .i64 2)) w' := by
  have hcp : (Builtin.copy_ #[23, 23] 3 #[.slice (some ⟨b, o, none⟩) 3 3, .slice (some ⟨b, o + 1, none⟩) 2 2]).run Tryz.prog w.drew = .ok (.int .i64 2) (((w.setCell ⟨b, o, none⟩ (.int .i64 y)).setCell ⟨b, o + 1, none⟩ (.int .i64 z))).drew := by
    have := run_copy_cells (P := Tryz.prog) w.drew 23 23 3 3 b o 3 3 ⟨b, o + 1, none⟩ 2 2 [.int .i64 y, .int .i64 z] Tryz.underlying23 info_int1 rfl (fun j v hj => by match j, hj with | 0, hj => simpa using hj ▸ h3 | 1, hj => simpa using hj ▸ h4) (fun j hj => by match j, hj with | 0, hj => simpa using congrArg Option.isSome h2 | 1, hj => simpa using congrArg Option.isSome h3) (fun j hj => hf _) (by simp [Value.oneCell'])
    exact this
  go_enter Tryz.func126, Tryz.ntmps126
  go_wp2_with fail
  go_region
  go_wp2
  go_ret2
  exact ⟨rfl, (Below.refl _ _).drew⟩
theorem turn_jump (b k : Nat) (x y z : Int) (v : Int) (w : World) (h1 : w.cell? ⟨b, 1 + k * 6 + 1, none⟩ = some (.int .i64 v)) (hf : w.frozen? ⟨b, 1 + k * 6 + 1, none⟩ = false) :
    Calls Tryz.prog 94 #[.pointer (some ⟨b, 1 + k * 6, none⟩), insV 10 x y z] w fun e w' => e = .returned (.tuple #[]) ∧ Below w.heap.size (w.setCell ⟨b, 1 + k * 6 + 1, none⟩ (.int .i64 x)) w' := by
  have l1 := cell_lt h1
  go_enter Tryz.func94, Tryz.ntmps94
  have hc : (w.alloc (insO 10 x y z)).cell? ⟨b, 1 + k * 6 + 1, none⟩ = some (.int .i64 v) := ((below_box w (insO 10 x y z)).cell (p := ⟨b, 1 + k * 6 + 1, none⟩) l1).trans h1
  have hg : (w.alloc (insO 10 x y z)).frozen? ⟨b, 1 + k * 6 + 1, none⟩ = false := ((below_box w (insO 10 x y z)).frozen (p := ⟨b, 1 + k * 6 + 1, none⟩) l1).trans hf
  go_wp2
  first | go_end0 | refine bodyPost_ret (results_none rfl _ _ _) rfl ?_
  have hq := below_box (w.setCell ⟨b, 1 + k * 6 + 1, none⟩ (.int .i64 x)) (insO 10 x y z)
  rw [size_setCell] at hq
  exact ⟨rfl, hq⟩
theorem turn_zero_yes (b k A : Nat) (hA : A < 4) (y z : Int) (v : Int) (w : World) (h1 : w.cell? ⟨b, 1 + k * 6 + 1, none⟩ = some (.int .i64 v)) (hf : w.frozen? ⟨b, 1 + k * 6 + 1, none⟩ = false) (h2 : w.cell? ⟨b, 1 + k * 6 + 2 + A, none⟩ = some (.int .i64 0)) :
    Calls Tryz.prog 94 #[.pointer (some ⟨b, 1 + k * 6, none⟩), insV 11 A y z] w fun e w' => e = .returned (.tuple #[]) ∧ Below w.heap.size (w.setCell ⟨b, 1 + k * 6 + 1, none⟩ (.int .i64 y)) w' := by
  have hA4 : (A : Int) < 4 := by omega
  have l1 := cell_lt h1
  go_enter Tryz.func94, Tryz.ntmps94
  go_wp2_with fail
  generalize hV : World.alloc w _ = V
  have hB : Below w.heap.size w V := by rw [← hV]; exact below_box _ _
  have hN : V.heap[w.heap.size]? = some (insO 11 A y z) := by rw [← hV]; exact heap_alloc_new _ _
  obtain ⟨n0, n1, n2, n3⟩ := cells4 hN
  rw [← hB.cell (p := ⟨b, 1 + k * 6 + 1, none⟩) l1] at h1
  rw [← hB.frozen (p := ⟨b, 1 + k * 6 + 1, none⟩) l1] at hf
  rw [← hB.cell (p := ⟨b, 1 + k * 6 + 2 + A, none⟩) l1] at h2
  have HB := Lib.hid hB
  clear hV hB hN
  go_wp2_with fail
  go_quiet (fail)
  go_wp2
  first | go_end0 | refine bodyPost_ret (results_none rfl _ _ _) rfl ?_
  exact ⟨rfl, below_drewN (below_both HB.out _ _) _⟩
theorem turn_zero_no (b k A : Nat) (hA : A < 4) (y z : Int) (v : Int) (w : World) (h2 : w.cell? ⟨b, 1 + k * 6 + 2 + A, none⟩ = some (.int .i64 v)) (hv : (v == 0) = false) :
    Calls Tryz.prog 94 #[.pointer (some ⟨b, 1 + k * 6, none⟩), insV 11 A y z] w fun e w' => e = .returned (.tuple #[]) ∧ Below w.heap.size w w' := by
  have hA4 : (A : Int) < 4 := by omega
  have l1 := cell_lt h2
  go_enter Tryz.func94, Tryz.ntmps94
  go_wp2_with fail
  generalize hV : World.alloc w _ = V
  have hB : Below w.heap.size w V := by rw [← hV]; exact below_box _ _
  have hN : V.heap[w.heap.size]? = some (insO 11 A y z) := by rw [← hV]; exact heap_alloc_new _ _
  obtain ⟨n0, n1, n2, n3⟩ := cells4 hN
  rw [← hB.cell (p := ⟨b, 1 + k * 6 + 2 + A, none⟩) l1] at h2
  have HB := Lib.hid hB
  clear hV hB hN
  go_wp2_with fail
  go_quiet (fail)
  go_wp2
  first | go_end0 | refine bodyPost_ret (results_none rfl _ _ _) rfl ?_
  exact ⟨rfl, below_drewN HB.out _⟩
theorem cell_off {V : World} {c d i j : Nat} {x : Value} (h : d ≠ c) : (V.setCell ⟨c, i, none⟩ x).cell? ⟨d, j, none⟩ = V.cell? ⟨d, j, none⟩ := World.cell?_setCell_other _ _ _ _ (by intro e; exact h (by simpa using (congrArg Addr.block e).symm))
theorem cell_ne {V : World} {c i j : Nat} {x : Value} (h : j ≠ i) : (V.setCell ⟨c, i, none⟩ x).cell? ⟨c, j, none⟩ = V.cell? ⟨c, j, none⟩ := World.cell?_setCell_other _ _ _ _ (by intro e; exact h (by simpa using (congrArg Addr.off e).symm))
theorem cell_is {V : World} {c i : Nat} {x y : Value} (h : V.cell? ⟨c, i, none⟩ = some y) : (V.setCell ⟨c, i, none⟩ x).cell? ⟨c, i, none⟩ = some x := by
  simp only [World.setCell, World.cell?, Array.getElem?_modify, if_pos] at h ⊢
  cases hq : V.heap[c]? with
  | none => simp [hq] at h
  | some o =>
    cases o with
    | cells cs t fr =>
      simp only [hq] at h
      have hi : i < cs.size := by
        rcases Nat.lt_or_ge i cs.size with h' | h'
        · exact h'
        · simp [Array.getElem?_eq_none h'] at h
      simp [hq, hi]
    | _ => simp [hq] at h
theorem cell_two {V : World} {c d i i2 j : Nat} {x y : Value} (h : d ≠ c) : ((V.setCell ⟨c, i, none⟩ x).setCell ⟨c, i2, none⟩ y).drew.cell? ⟨d, j, none⟩ = V.cell? ⟨d, j, none⟩ := (cell_off (V := V.setCell ⟨c, i, none⟩ x) h).trans (cell_off h)
theorem cell_last {V : World} {c i i2 : Nat} {x y z : Value} (h : V.cell? ⟨c, i2, none⟩ = some z) (hi : i2 ≠ i) : ((V.setCell ⟨c, i, none⟩ x).setCell ⟨c, i2, none⟩ y).drew.cell? ⟨c, i2, none⟩ = some y := cell_is (V := V.setCell ⟨c, i, none⟩ x) ((cell_ne hi).trans h)
theorem touch_load (b eb k A B : Nat) (z : Int) (hA : A < 4) (hB : B < 8) (x v o3 o4 : Int) (w : World) (h1 : w.cell? ⟨b, 37 + B, none⟩ = some (.int .i64 x)) (h2 : w.cell? ⟨b, 1 + k * 6 + 2 + A, none⟩ = some (.int .i64 v)) (hf : ∀ i, w.frozen? ⟨b, i, none⟩ = false)
    (h3 : w.cell? ⟨eb, 3, none⟩ = some (.int .i64 o3)) (h4 : w.cell? ⟨eb, 4, none⟩ = some (.int .i64 o4)) (hg : ∀ i, w.frozen? ⟨eb, i, none⟩ = false) (hne : b ≠ eb) :
    Calls Tryz.prog 95 #[.pointer (some ⟨b, 0, none⟩), .pointer (some ⟨b, 1 + k * 6, none⟩), insV 7 A B z, .pointer (some ⟨eb, 0, none⟩)] w fun e w' => e = .returned (.tuple #[]) ∧ Below w.heap.size (((w.setCell ⟨eb, 3, none⟩ (.int .i64 B)).setCell ⟨eb, 4, none⟩ (.int .i64 x)).setCell ⟨b, 1 + k * 6 + 2 + A, none⟩ (.int .i64 x)) w' := by
  have hA4 : (A : Int) < 4 := by omega
  have hB4 : (B : Int) < 8 := by omega
  have l1 := cell_lt h1
  have l3 := cell_lt h3
  go_enter Tryz.func95, Tryz.ntmps95
  go_wp2_with fail
  generalize hV : World.alloc w _ = V
  have hB : Below w.heap.size w V := by rw [← hV]; exact below_box _ _
  have hN : V.heap[w.heap.size]? = some (insO 7 A B z) := by rw [← hV]; exact heap_alloc_new _ _
  obtain ⟨n0, n1, n2, n3⟩ := cells4 hN
  have d1 : V.cell? ⟨b, 37 + B, none⟩ = some (.int .i64 x) := (hB.cell (p := ⟨b, 37 + B, none⟩) l1).trans h1
  have d3 : V.cell? ⟨eb, 3, none⟩ = some (.int .i64 o3) := (hB.cell (p := ⟨eb, 3, none⟩) l3).trans h3
  have d4 : V.cell? ⟨eb, 4, none⟩ = some (.int .i64 o4) := (hB.cell (p := ⟨eb, 4, none⟩) l3).trans h4
  have dg : ∀ i, V.frozen? ⟨eb, i, none⟩ = false := fun i => (hB.frozen (p := ⟨eb, i, none⟩) l3).trans (hg i)
  have HB := Lib.hid hB
  have H2 := Lib.hid ((hB.cell (p := ⟨b, 1 + k * 6 + 2 + A, none⟩) l1).trans h2)
  have HF := Lib.hid (fun i => (hB.frozen (p := ⟨b, i, none⟩) l1).trans (hf i))
  clear hV hB hN h1 h2 h3 h4 hf hg
  go_wp2_with fail
  go_region
  have Hl : w.heap.size ≠ eb := by omega
  generalize hU : World.drew _ = U
  have e1 : U.cell? ⟨w.heap.size, 1, none⟩ = some (.int .i64 A) := by rw [← hU]; exact (cell_two Hl).trans n1
  have e2 : U.cell? ⟨b, 1 + k * 6 + 2 + A, none⟩ = some (.int .i64 v) := by rw [← hU]; exact (cell_two hne).trans H2.out
  have e3 : U.cell? ⟨eb, 4, none⟩ = some (.int .i64 x) := by rw [← hU]; exact cell_last d4 (by omega)
  have ef : U.frozen? ⟨b, 1 + k * 6 + 2 + A, none⟩ = false := by rw [← hU]; simpa using HF.out _
  have HU := Lib.hid hU
  clear hU n0 n1 n2 n3 d1 d3 d4 dg
  go_wp2_with fail
  go_region
  go_wp2
  first | go_end0 | refine bodyPost_ret (results_none rfl _ _ _) rfl ?_
  refine ⟨rfl, ?_⟩
  rw [← HU.out]
  exact (below_both (below_both (below_both HB.out _ _) _ _).drew _ _).drew
theorem touch_store (b eb k A B : Nat) (z : Int) (hA : A < 8) (hB : B < 4) (x v o3 o4 : Int) (w : World) (h1 : w.cell? ⟨b, 1 + k * 6 + 2 + B, none⟩ = some (.int .i64 x)) (h2 : w.cell? ⟨b, 37 + A, none⟩ = some (.int .i64 v)) (hf : ∀ i, w.frozen? ⟨b, i, none⟩ = false)
    (h3 : w.cell? ⟨eb, 3, none⟩ = some (.int .i64 o3)) (h4 : w.cell? ⟨eb, 4, none⟩ = some (.int .i64 o4)) (hg : ∀ i, w.frozen? ⟨eb, i, none⟩ = false) (hne : b ≠ eb) :
    Calls Tryz.prog 95 #[.pointer (some ⟨b, 0, none⟩), .pointer (some ⟨b, 1 + k * 6, none⟩), insV 8 A B z, .pointer (some ⟨eb, 0, none⟩)] w fun e w' => e = .returned (.tuple #[]) ∧ Below w.heap.size (((w.setCell ⟨eb, 3, none⟩ (.int .i64 A)).setCell ⟨eb, 4, none⟩ (.int .i64 x)).setCell ⟨b, 37 + A, none⟩ (.int .i64 x)) w' := by
  have hA4 : (A : Int) < 8 := by omega
  have hB4 : (B : Int) < 4 := by omega
  have l1 := cell_lt h1
  have l3 := cell_lt h3
  go_enter Tryz.func95, Tryz.ntmps95
  go_wp2_with fail
  generalize hV : World.alloc w _ = V
  have hB : Below w.heap.size w V := by rw [← hV]; exact below_box _ _
  have hN : V.heap[w.heap.size]? = some (insO 8 A B z) := by rw [← hV]; exact heap_alloc_new _ _
  obtain ⟨n0, n1, n2, n3⟩ := cells4 hN
  have d1 : V.cell? ⟨b, 1 + k * 6 + 2 + B, none⟩ = some (.int .i64 x) := (hB.cell (p := ⟨b, 1 + k * 6 + 2 + B, none⟩) l1).trans h1
  have d3 : V.cell? ⟨eb, 3, none⟩ = some (.int .i64 o3) := (hB.cell (p := ⟨eb, 3, none⟩) l3).trans h3
  have d4 : V.cell? ⟨eb, 4, none⟩ = some (.int .i64 o4) := (hB.cell (p := ⟨eb, 4, none⟩) l3).trans h4
  have dg : ∀ i, V.frozen? ⟨eb, i, none⟩ = false := fun i => (hB.frozen (p := ⟨eb, i, none⟩) l3).trans (hg i)
  have HB := Lib.hid hB
  have H2 := Lib.hid ((hB.cell (p := ⟨b, 37 + A, none⟩) l1).trans h2)
  have HF := Lib.hid (fun i => (hB.frozen (p := ⟨b, i, none⟩) l1).trans (hf i))
  clear hV hB hN h1 h2 h3 h4 hf hg
  go_wp2_with fail
  go_region
  have Hl : w.heap.size ≠ eb := by omega
  generalize hU : World.drew _ = U
  have e1 : U.cell? ⟨w.heap.size, 1, none⟩ = some (.int .i64 A) := by rw [← hU]; exact (cell_two Hl).trans n1
  have e2 : U.cell? ⟨b, 37 + A, none⟩ = some (.int .i64 v) := by rw [← hU]; exact (cell_two hne).trans H2.out
  have e3 : U.cell? ⟨eb, 4, none⟩ = some (.int .i64 x) := by rw [← hU]; exact cell_last d4 (by omega)
  have ef : U.frozen? ⟨b, 37 + A, none⟩ = false := by rw [← hU]; simpa using HF.out _
  have HU := Lib.hid hU
  clear hU n0 n1 n2 n3 d1 d3 d4 dg
  go_wp2_with fail
  go_region
  go_wp2
  first | go_end0 | refine bodyPost_ret (results_none rfl _ _ _) rfl ?_
  refine ⟨rfl, ?_⟩
  rw [← HU.out]
  exact (below_both (below_both (below_both HB.out _ _) _ _).drew _ _).drew
theorem touch_read (b eb k A B : Nat) (z : Int) (hA : A < 4) (hB : B < 4) (x v o3 o4 : Int) (w : World) (h1 : w.cell? ⟨b, 45 + B, none⟩ = some (.int .i64 x)) (h2 : w.cell? ⟨b, 1 + k * 6 + 2 + A, none⟩ = some (.int .i64 v)) (hf : ∀ i, w.frozen? ⟨b, i, none⟩ = false)
    (h3 : w.cell? ⟨eb, 3, none⟩ = some (.int .i64 o3)) (h4 : w.cell? ⟨eb, 4, none⟩ = some (.int .i64 o4)) (hg : ∀ i, w.frozen? ⟨eb, i, none⟩ = false) (hne : b ≠ eb) :
    Calls Tryz.prog 95 #[.pointer (some ⟨b, 0, none⟩), .pointer (some ⟨b, 1 + k * 6, none⟩), insV 17 A B z, .pointer (some ⟨eb, 0, none⟩)] w fun e w' => e = .returned (.tuple #[]) ∧ Below w.heap.size (((w.setCell ⟨eb, 3, none⟩ (.int .i64 B)).setCell ⟨eb, 4, none⟩ (.int .i64 x)).setCell ⟨b, 1 + k * 6 + 2 + A, none⟩ (.int .i64 x)) w' := by
  have hA4 : (A : Int) < 4 := by omega
  have hB4 : (B : Int) < 4 := by omega
  have l1 := cell_lt h1
  have l3 := cell_lt h3
  go_enter Tryz.func95, Tryz.ntmps95
  go_wp2_with fail
  generalize hV : World.alloc w _ = V
  have hB : Below w.heap.size w V := by rw [← hV]; exact below_box _ _
  have hN : V.heap[w.heap.size]? = some (insO 17 A B z) := by rw [← hV]; exact heap_alloc_new _ _
  obtain ⟨n0, n1, n2, n3⟩ := cells4 hN
  have d1 : V.cell? ⟨b, 45 + B, none⟩ = some (.int .i64 x) := (hB.cell (p := ⟨b, 45 + B, none⟩) l1).trans h1
  have d3 : V.cell? ⟨eb, 3, none⟩ = some (.int .i64 o3) := (hB.cell (p := ⟨eb, 3, none⟩) l3).trans h3
  have d4 : V.cell? ⟨eb, 4, none⟩ = some (.int .i64 o4) := (hB.cell (p := ⟨eb, 4, none⟩) l3).trans h4
  have dg : ∀ i, V.frozen? ⟨eb, i, none⟩ = false := fun i => (hB.frozen (p := ⟨eb, i, none⟩) l3).trans (hg i)
  have HB := Lib.hid hB
  have H2 := Lib.hid ((hB.cell (p := ⟨b, 1 + k * 6 + 2 + A, none⟩) l1).trans h2)
  have HF := Lib.hid (fun i => (hB.frozen (p := ⟨b, i, none⟩) l1).trans (hf i))
  clear hV hB hN h1 h2 h3 h4 hf hg
  go_wp2_with fail
  go_region
  have Hl : w.heap.size ≠ eb := by omega
  generalize hU : World.drew _ = U
  have e1 : U.cell? ⟨w.heap.size, 1, none⟩ = some (.int .i64 A) := by rw [← hU]; exact (cell_two Hl).trans n1
  have e2 : U.cell? ⟨b, 1 + k * 6 + 2 + A, none⟩ = some (.int .i64 v) := by rw [← hU]; exact (cell_two hne).trans H2.out
  have e3 : U.cell? ⟨eb, 4, none⟩ = some (.int .i64 x) := by rw [← hU]; exact cell_last d4 (by omega)
  have ef : U.frozen? ⟨b, 1 + k * 6 + 2 + A, none⟩ = false := by rw [← hU]; simpa using HF.out _
  have HU := Lib.hid hU
  clear hU n0 n1 n2 n3 d1 d3 d4 dg
  go_wp2_with fail
  go_region
  go_wp2
  first | go_end0 | refine bodyPost_ret (results_none rfl _ _ _) rfl ?_
  refine ⟨rfl, ?_⟩
  rw [← HU.out]
  exact (below_both (below_both (below_both HB.out _ _) _ _).drew _ _).drew
theorem touch_write (b eb k A B : Nat) (z : Int) (hA : A < 4) (hB : B < 4) (x v o3 o4 : Int) (w : World) (h1 : w.cell? ⟨b, 1 + k * 6 + 2 + B, none⟩ = some (.int .i64 x)) (h2 : w.cell? ⟨b, 45 + A, none⟩ = some (.int .i64 v)) (hf : ∀ i, w.frozen? ⟨b, i, none⟩ = false)
    (h3 : w.cell? ⟨eb, 3, none⟩ = some (.int .i64 o3)) (h4 : w.cell? ⟨eb, 4, none⟩ = some (.int .i64 o4)) (hg : ∀ i, w.frozen? ⟨eb, i, none⟩ = false) (hne : b ≠ eb) :
    Calls Tryz.prog 95 #[.pointer (some ⟨b, 0, none⟩), .pointer (some ⟨b, 1 + k * 6, none⟩), insV 18 A B z, .pointer (some ⟨eb, 0, none⟩)] w fun e w' => e = .returned (.tuple #[]) ∧ Below w.heap.size (((w.setCell ⟨eb, 3, none⟩ (.int .i64 A)).setCell ⟨eb, 4, none⟩ (.int .i64 x)).setCell ⟨b, 45 + A, none⟩ (.int .i64 x)) w' := by
  have hA4 : (A : Int) < 4 := by omega
  have hB4 : (B : Int) < 4 := by omega
  have l1 := cell_lt h1
  have l3 := cell_lt h3
  go_enter Tryz.func95, Tryz.ntmps95
  go_wp2_with fail
  generalize hV : World.alloc w _ = V
  have hB : Below w.heap.size w V := by rw [← hV]; exact below_box _ _
  have hN : V.heap[w.heap.size]? = some (insO 18 A B z) := by rw [← hV]; exact heap_alloc_new _ _
  obtain ⟨n0, n1, n2, n3⟩ := cells4 hN
  have d1 : V.cell? ⟨b, 1 + k * 6 + 2 + B, none⟩ = some (.int .i64 x) := (hB.cell (p := ⟨b, 1 + k * 6 + 2 + B, none⟩) l1).trans h1
  have d3 : V.cell? ⟨eb, 3, none⟩ = some (.int .i64 o3) := (hB.cell (p := ⟨eb, 3, none⟩) l3).trans h3
  have d4 : V.cell? ⟨eb, 4, none⟩ = some (.int .i64 o4) := (hB.cell (p := ⟨eb, 4, none⟩) l3).trans h4
  have dg : ∀ i, V.frozen? ⟨eb, i, none⟩ = false := fun i => (hB.frozen (p := ⟨eb, i, none⟩) l3).trans (hg i)
  have HB := Lib.hid hB
  have H2 := Lib.hid ((hB.cell (p := ⟨b, 45 + A, none⟩) l1).trans h2)
  have HF := Lib.hid (fun i => (hB.frozen (p := ⟨b, i, none⟩) l1).trans (hf i))
  clear hV hB hN h1 h2 h3 h4 hf hg
  go_wp2_with fail
  go_region
  have Hl : w.heap.size ≠ eb := by omega
  generalize hU : World.drew _ = U
  have e1 : U.cell? ⟨w.heap.size, 1, none⟩ = some (.int .i64 A) := by rw [← hU]; exact (cell_two Hl).trans n1
  have e2 : U.cell? ⟨b, 45 + A, none⟩ = some (.int .i64 v) := by rw [← hU]; exact (cell_two hne).trans H2.out
  have e3 : U.cell? ⟨eb, 4, none⟩ = some (.int .i64 x) := by rw [← hU]; exact cell_last d4 (by omega)
  have ef : U.frozen? ⟨b, 45 + A, none⟩ = false := by rw [← hU]; simpa using HF.out _
  have HU := Lib.hid hU
  clear hU n0 n1 n2 n3 d1 d3 d4 dg
  go_wp2_with fail
  go_region
  go_wp2
  first | go_end0 | refine bodyPost_ret (results_none rfl _ _ _) rfl ?_
  refine ⟨rfl, ?_⟩
  rw [← HU.out]
  exact (below_both (below_both (below_both HB.out _ _) _ _).drew _ _).drew
end Go.Proofs.YtglafbajbiengaaGreat
