/- What is done with a channel, and where a jump leads. -/
import Derived.Test.YtfcfdneganknjaaStateThings
namespace Go.Proofs.Ytfcfdneganknjaa
set_option linter.unusedVariables false
set_option linter.unusedSimpArgs false
set_option maxRecDepth 100000
open Go.ChangeShapes Go.WideShapes Go.ChangeAt Go.RowKit

set_option maxHeartbeats 400000 in
theorem put_yes (b o j : Nat) (hj : j < 3) (n v : Int) (w : World) (h1 : w.cell? ⟨b, o + 5, none⟩ = some (.bool false)) (h2 : w.cell? ⟨b, o + 3, none⟩ = some (.int .i64 j)) (h3 : w.cell? ⟨b, o + j, none⟩ = some (.int .i64 v)) (hf : ∀ i, w.frozen? ⟨b, i, none⟩ = false) :
    Calls Try.prog 89 #[.pointer (some ⟨b, o, none⟩), .int .i64 n] w fun e w' => e = .returned (.bool true) ∧ Below w.heap.size ((w.setCell ⟨b, o + j, none⟩ (.int .i64 n)).setCell ⟨b, o + 3, none⟩ (.int .i64 ((j : Int) + 1))) w' := by
  have hj3 : (j : Int) < 3 := by omega
  go_enter Try.func89, Try.ntmps89
  go_wp2_with fail
  go_region
  have hc3 : (w.setCell ⟨b, o + j, none⟩ (.int .i64 n)).cell? ⟨b, o + 3, none⟩ = some (.int .i64 j) := by
    rw [World.cell?_setCell_other _ _ _ _ (by simp <;> omega)]; exact h2
  go_wp2
  go_ret
  exact ⟨rfl, (Below.refl _ _).drew⟩
set_option maxHeartbeats 400000 in
theorem take_none (b o : Nat) (w : World) (h1 : w.cell? ⟨b, o + 3, none⟩ = some (.int .i64 0)) (h2 : w.cell? ⟨b, o + 5, none⟩ = some (.bool false)) :
    Calls Try.prog 90 #[.pointer (some ⟨b, o, none⟩)] w fun e w' => e = .returned (.tuple #[.int .i64 0, .int .i64 0]) ∧ Below w.heap.size w w' := by
  go_enter Try.func90, Try.ntmps90
  go_wp2
  go_ret2
  exact ⟨rfl, Below.refl _ _⟩
set_option maxHeartbeats 400000 in
theorem take_over (b o : Nat) (w : World) (h1 : w.cell? ⟨b, o + 3, none⟩ = some (.int .i64 0)) (h2 : w.cell? ⟨b, o + 5, none⟩ = some (.bool true)) :
    Calls Try.prog 90 #[.pointer (some ⟨b, o, none⟩)] w fun e w' => e = .returned (.tuple #[.int .i64 0, .int .i64 2]) ∧ Below w.heap.size w w' := by
  go_enter Try.func90, Try.ntmps90
  go_wp2
  go_ret2
  exact ⟨rfl, Below.refl _ _⟩
theorem info_int1 : (Try.prog.info? 3).map (·.size) = some 1 := by kernel_rfl
set_option maxHeartbeats 400000 in
theorem take_1 (b o : Nat) (x y z : Int) (w : World) (h1 : w.cell? ⟨b, o + 3, none⟩ = some (.int .i64 1)) (h2 : w.cell? ⟨b, o, none⟩ = some (.int .i64 x)) (h3 : w.cell? ⟨b, o + 1, none⟩ = some (.int .i64 y)) (h4 : w.cell? ⟨b, o + 2, none⟩ = some (.int .i64 z)) (hf : ∀ i, w.frozen? ⟨b, i, none⟩ = false) :
    Calls Try.prog 90 #[.pointer (some ⟨b, o, none⟩)] w fun e w' => e = .returned (.tuple #[.int .i64 x, .int .i64 1]) ∧ Below w.heap.size (w.setCell ⟨b, o + 3, none⟩ (.int .i64 0)) w' := by
  have hcp : (Builtin.copy_ #[23, 23] 3 #[.slice (some ⟨b, o, none⟩) 3 3, .slice (some ⟨b, o + 1, none⟩) 0 2]).run Try.prog w.drew = .ok (.int .i64 0) (w).drew := by
    exact run_copy_none w.drew _ _ _ 3 _ _ _ _ _ _ Try.underlying23 info_int1 rfl
  go_enter Try.func90, Try.ntmps90
  go_wp2_with fail
  go_region
  go_wp2
  go_ret2
  exact ⟨rfl, (Below.refl _ _).drew⟩
set_option maxHeartbeats 400000 in
theorem take_2 (b o : Nat) (x y z : Int) (w : World) (h1 : w.cell? ⟨b, o + 3, none⟩ = some (.int .i64 2)) (h2 : w.cell? ⟨b, o, none⟩ = some (.int .i64 x)) (h3 : w.cell? ⟨b, o + 1, none⟩ = some (.int .i64 y)) (h4 : w.cell? ⟨b, o + 2, none⟩ = some (.int .i64 z)) (hf : ∀ i, w.frozen? ⟨b, i, none⟩ = false) :
    Calls Try.prog 90 #[.pointer (some ⟨b, o, none⟩)] w fun e w' => e = .returned (.tuple #[.int .i64 x, .int .i64 1]) ∧ Below w.heap.size ((w.setCell ⟨b, o, none⟩ (.int .i64 y)).setCell ⟨b, o + 3, none⟩ (.int .i64 1)) w' := by
  have hcp : (Builtin.copy_ #[23, 23] 3 #[.slice (some ⟨b, o, none⟩) 3 3, .slice (some ⟨b, o + 1, none⟩) 1 2]).run Try.prog w.drew = .ok (.int .i64 1) ((w.setCell ⟨b, o, none⟩ (.int .i64 y))).drew := by
    have := run_copy_cells (P := Try.prog) w.drew 23 23 3 3 b o 3 3 ⟨b, o + 1, none⟩ 1 2 [.int .i64 y] Try.underlying23 info_int1 rfl (fun j v hj => by match j, hj with | 0, hj => simpa using hj ▸ h3) (fun j hj => by match j, hj with | 0, hj => simpa using congrArg Option.isSome h2) (fun j hj => hf _) (by simp [Value.oneCell'])
    exact this
  go_enter Try.func90, Try.ntmps90
  go_wp2_with fail
  go_region
  go_wp2
  go_ret2
  exact ⟨rfl, (Below.refl _ _).drew⟩
set_option maxHeartbeats 400000 in
theorem take_3 (b o : Nat) (x y z : Int) (w : World) (h1 : w.cell? ⟨b, o + 3, none⟩ = some (.int .i64 3)) (h2 : w.cell? ⟨b, o, none⟩ = some (.int .i64 x)) (h3 : w.cell? ⟨b, o + 1, none⟩ = some (.int .i64 y)) (h4 : w.cell? ⟨b, o + 2, none⟩ = some (.int .i64 z)) (hf : ∀ i, w.frozen? ⟨b, i, none⟩ = false) :
    Calls Try.prog 90 #[.pointer (some ⟨b, o, none⟩)] w fun e w' => e = .returned (.tuple #[.int .i64 x, .int .i64 1]) ∧ Below w.heap.size (((w.setCell ⟨b, o, none⟩ (.int .i64 y)).setCell ⟨b, o + 1, none⟩ (.int .i64 z)).setCell ⟨b, o + 3, none⟩ (.int .i64 2)) w' := by
  have hcp : (Builtin.copy_ #[23, 23] 3 #[.slice (some ⟨b, o, none⟩) 3 3, .slice (some ⟨b, o + 1, none⟩) 2 2]).run Try.prog w.drew = .ok (.int .i64 2) (((w.setCell ⟨b, o, none⟩ (.int .i64 y)).setCell ⟨b, o + 1, none⟩ (.int .i64 z))).drew := by
    have := run_copy_cells (P := Try.prog) w.drew 23 23 3 3 b o 3 3 ⟨b, o + 1, none⟩ 2 2 [.int .i64 y, .int .i64 z] Try.underlying23 info_int1 rfl (fun j v hj => by match j, hj with | 0, hj => simpa using hj ▸ h3 | 1, hj => simpa using hj ▸ h4) (fun j hj => by match j, hj with | 0, hj => simpa using congrArg Option.isSome h2 | 1, hj => simpa using congrArg Option.isSome h3) (fun j hj => hf _) (by simp [Value.oneCell'])
    exact this
  go_enter Try.func90, Try.ntmps90
  go_wp2_with fail
  go_region
  go_wp2
  go_ret2
  exact ⟨rfl, (Below.refl _ _).drew⟩

set_option maxHeartbeats 400000 in
theorem turn_jump (b k : Nat) (x y z : Int) (v : Int) (w : World) (h1 : w.cell? ⟨b, 1 + k * 6 + 1, none⟩ = some (.int .i64 v)) (hf : w.frozen? ⟨b, 1 + k * 6 + 1, none⟩ = false) :
    Calls Try.prog 71 #[.pointer (some ⟨b, 1 + k * 6, none⟩), insV 10 x y z] w fun e w' => e = .returned (.tuple #[]) ∧ Below w.heap.size (w.setCell ⟨b, 1 + k * 6 + 1, none⟩ (.int .i64 x)) w' := by
  have l1 := cell_lt h1
  go_enter Try.func71, Try.ntmps71
  have hc : (w.alloc (insO 10 x y z)).cell? ⟨b, 1 + k * 6 + 1, none⟩ = some (.int .i64 v) := ((below_box w (insO 10 x y z)).cell (p := ⟨b, 1 + k * 6 + 1, none⟩) l1).trans h1
  have hg : (w.alloc (insO 10 x y z)).frozen? ⟨b, 1 + k * 6 + 1, none⟩ = false := ((below_box w (insO 10 x y z)).frozen (p := ⟨b, 1 + k * 6 + 1, none⟩) l1).trans hf
  go_wp2
  first | go_end0 | refine bodyPost_ret (results_none rfl _ _ _) rfl ?_
  have hq := below_box (w.setCell ⟨b, 1 + k * 6 + 1, none⟩ (.int .i64 x)) (insO 10 x y z)
  rw [size_setCell] at hq
  exact ⟨rfl, hq⟩
set_option maxHeartbeats 400000 in
theorem turn_zero_yes (b k A : Nat) (hA : A < 4) (y z : Int) (v : Int) (w : World) (h1 : w.cell? ⟨b, 1 + k * 6 + 1, none⟩ = some (.int .i64 v)) (hf : w.frozen? ⟨b, 1 + k * 6 + 1, none⟩ = false) (h2 : w.cell? ⟨b, 1 + k * 6 + 2 + A, none⟩ = some (.int .i64 0)) :
    Calls Try.prog 71 #[.pointer (some ⟨b, 1 + k * 6, none⟩), insV 11 A y z] w fun e w' => e = .returned (.tuple #[]) ∧ Below w.heap.size (w.setCell ⟨b, 1 + k * 6 + 1, none⟩ (.int .i64 y)) w' := by
  have hA4 : (A : Int) < 4 := by omega
  have l1 := cell_lt h1
  go_enter Try.func71, Try.ntmps71
  go_wp2_with fail
  generalize hV : World.alloc w _ = V
  have hB : Below w.heap.size w V := by rw [← hV]; exact below_box _ _
  have hN : V.heap[w.heap.size]? = some (insO 11 A y z) := by rw [← hV]; exact heap_alloc_new _ _
  obtain ⟨n0, n1, n2, n3⟩ := cells4 hN
  rw [← hB.cell (p := ⟨b, 1 + k * 6 + 1, none⟩) l1] at h1
  rw [← hB.frozen (p := ⟨b, 1 + k * 6 + 1, none⟩) l1] at hf
  rw [← hB.cell (p := ⟨b, 1 + k * 6 + 2 + A, none⟩) l1] at h2
  have HB := Lib.hid hB
  clear hV hB hN
  go_wp2_with fail
  go_quiet (fail)
  go_wp2
  first | go_end0 | refine bodyPost_ret (results_none rfl _ _ _) rfl ?_
  exact ⟨rfl, below_drewN (below_both HB.out _ _) _⟩
set_option maxHeartbeats 400000 in
theorem turn_zero_no (b k A : Nat) (hA : A < 4) (y z : Int) (v : Int) (w : World) (h2 : w.cell? ⟨b, 1 + k * 6 + 2 + A, none⟩ = some (.int .i64 v)) (hv : (v == 0) = false) :
    Calls Try.prog 71 #[.pointer (some ⟨b, 1 + k * 6, none⟩), insV 11 A y z] w fun e w' => e = .returned (.tuple #[]) ∧ Below w.heap.size w w' := by
  have hA4 : (A : Int) < 4 := by omega
  have l1 := cell_lt h2
  go_enter Try.func71, Try.ntmps71
  go_wp2_with fail
  generalize hV : World.alloc w _ = V
  have hB : Below w.heap.size w V := by rw [← hV]; exact below_box _ _
  have hN : V.heap[w.heap.size]? = some (insO 11 A y z) := by rw [← hV]; exact heap_alloc_new _ _
  obtain ⟨n0, n1, n2, n3⟩ := cells4 hN
  rw [← hB.cell (p := ⟨b, 1 + k * 6 + 2 + A, none⟩) l1] at h2
  have HB := Lib.hid hB
  clear hV hB hN
  go_wp2_with fail
  go_quiet (fail)
  go_wp2
  first | go_end0 | refine bodyPost_ret (results_none rfl _ _ _) rfl ?_
  exact ⟨rfl, below_drewN HB.out _⟩
end Go.Proofs.Ytfcfdneganknjaa
