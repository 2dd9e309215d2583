/- What Name of package ir returns, for every instruction. -/
import Derived.Test.YtpmfolgihdmcjaaIrOf
namespace Go.Proofs.Ytpmfolgihdmcjaa
set_option linter.unusedVariables false
set_option linter.unusedSimpArgs false
open Go.RowKit

/-- One, if a number is not nought. -/
def nz (x : Int) : Int := if x = 0 then 0 else 1
theorem nz_zero {x : Int} (h : x = 0) : nz x = 0 := by simp [nz, h]
theorem nz_one {x : Int} (h : x ≠ 0) : nz x = 1 := by simp [nz, h]
theorem nz_bound (x : Int) : 0 ≤ nz x ∧ nz x ≤ 1 := by unfold nz; split <;> omega
/-- The number at a place of A, B, C. -/
def Row.at (r : Row) (k : Nat) : Int := if k = 0 then r.a else if k = 1 then r.b else r.c
/-- How many of the first k have a word. -/
def Row.cnt (r : Row) : Nat → Int
  | 0 => 0
  | k + 1 => r.cnt k + nz (r.at k)
theorem cnt_bound (r : Row) : ∀ k, 0 ≤ r.cnt k ∧ r.cnt k ≤ k
  | 0 => ⟨Int.le_refl _, Int.le_refl _⟩
  | k + 1 => by have := cnt_bound r k; have := nz_bound (r.at k); unfold Row.cnt; omega
theorem abc_0 (r : Row) (u : World) : (Instr.index 61 (.agg #[.int .u8 r.a, .int .u8 r.b, .int .u8 r.c]) (.int .i64 0)).run Try.prog u = .ok (.int .u8 r.a) u := by kernel_rfl
theorem abc_1 (r : Row) (u : World) : (Instr.index 61 (.agg #[.int .u8 r.a, .int .u8 r.b, .int .u8 r.c]) (.int .i64 1)).run Try.prog u = .ok (.int .u8 r.b) u := by kernel_rfl
theorem abc_2 (r : Row) (u : World) : (Instr.index 61 (.agg #[.int .u8 r.a, .int .u8 r.b, .int .u8 r.c]) (.int .i64 2)).run Try.prog u = .ok (.int .u8 r.c) u := by kernel_rfl
theorem abc_at (r : Row) (k : Nat) (h : k < 3) (u : World) : (Instr.index 61 (.agg #[.int .u8 r.a, .int .u8 r.b, .int .u8 r.c]) (.int .i64 k)).run Try.prog u = .ok (.int .u8 (r.at k)) u := by
  obtain rfl | rfl | rfl : k = 0 ∨ k = 1 ∨ k = 2 := by omega
  · exact abc_0 r u
  · exact abc_1 r u
  · exact abc_2 r u

set_option maxHeartbeats 2000000 in
theorem name_any (k : Nat) (w : World) :
    Calls Try.prog 21 #[.int .u8 k] w fun e w' => e = .returned (.tuple #[.string (rowAt k).name, .int .i64 ((rowAt k).cnt 3)]) ∧ Below w.heap.size w w' := by
  have H := of_row k
  generalize rowAt k = r at H ⊢
  have H := Lib.hid H
  go_enter Try.func21, Try.ntmps21
  go_wp2_with (first
    | (go_at_call 38; refine (H.out _).mono ?_; rintro e w1 ⟨rfl, hB1⟩))
  go_loop [5, 12] (fun n i => ∃ j : Nat, j ≤ 3 ∧ i = .int .i64 j ∧ n = .int .i64 (r.cnt j)) (fun _ i => 3 - (intOf i).toNat)
  case atStart => exact ⟨0, Nat.zero_le _, rfl, rfl⟩
  case round =>
    obtain ⟨j, hj, rfl, rfl⟩ := hrel
    have hb := cnt_bound r j
    by_cases hlt : j < 3
    · have hi := abc_at r j hlt
      by_cases hz : r.at j = 0
      · have hz' : (r.at j != 0) = false := by simp [hz]
        have HN := Lib.hid (show r.cnt j = r.cnt (j + 1) by rw [Row.cnt, nz_zero hz]; omega)
        clear hz
        go_wp2
        go_round
        case rel => exact ⟨j + 1, by omega, by go_num, by rw [← HN.out]⟩
        case measure => simp [intOf]; omega
      · have hz' : (r.at j != 0) = true := by simp [hz]
        have HN := Lib.hid (show r.cnt j + 1 = r.cnt (j + 1) by rw [Row.cnt, nz_one hz])
        clear hz
        go_wp2
        go_round
        case rel => exact ⟨j + 1, by omega, by go_num, by rw [← HN.out]⟩
        case measure => simp [intOf]; omega
    · obtain rfl : j = 3 := by omega
      go_wp2
      go_ret2
      exact ⟨rfl, hB1.alloc hB1.size _⟩

end Go.Proofs.Ytpmfolgihdmcjaa
