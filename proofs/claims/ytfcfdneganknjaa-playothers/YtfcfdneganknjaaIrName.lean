/- What Name of package ir returns, for every instruction. -/
import Derived.Test.YtfcfdneganknjaaIrOf
namespace Go.Proofs.Ytfcfdneganknjaa
set_option linter.unusedVariables false
set_option linter.unusedSimpArgs false
open Go.RowKit

/-- One, if a number is not nought. -/
def nz (x : Int) : Int := if x = 0 then 0 else 1
theorem nz_zero {x : Int} (h : x = 0) : nz x = 0 := by simp [nz, h]
theorem nz_one {x : Int} (h : x ≠ 0) : nz x = 1 := by simp [nz, h]
theorem nz_bound (x : Int) : 0 ≤ nz x ∧ nz x ≤ 1 := by unfold nz; split <;> omega
/-- The number at a place of A, B, C. -/
def Row.at (r : Row) (k : Nat) : Int := if k = 0 then r.a else if k = 1 then r.b else r.c
/-- How many of the first k have a word. -/
def Row.cnt (r : Row) : Nat → Int
  | 0 => 0
  | k + 1 => r.cnt k + nz (r.at k)
theorem cnt_bound (r : Row) : ∀ k, 0 ≤ r.cnt k ∧ r.cnt k ≤ k
  | 0 => ⟨Int.le_refl _, Int.le_refl _⟩
  | k + 1 => by have := cnt_bound r k; have := nz_bound (r.at k); unfold Row.cnt; omega
theorem abc_0 (r : Row) (u : World) : (Instr.index 133 (.agg #[.int .u8 r.a, .int .u8 r.b, .int .u8 r.c]) (.int .i64 0)).run Try.prog u = .ok (.int .u8 r.a) u := by kernel_rfl
theorem abc_1 (r : Row) (u : World) : (Instr.index 133 (.agg #[.int .u8 r.a, .int .u8 r.b, .int .u8 r.c]) (.int .i64 1)).run Try.prog u = .ok (.int .u8 r.b) u := by kernel_rfl
theorem abc_2 (r : Row) (u : World) : (Instr.index 133 (.agg #[.int .u8 r.a, .int .u8 r.b, .int .u8 r.c]) (.int .i64 2)).run Try.prog u = .ok (.int .u8 r.c) u := by kernel_rfl
theorem abc_at (r : Row) (k : Nat) (h : k < 3) (u : World) : (Instr.index 133 (.agg #[.int .u8 r.a, .int .u8 r.b, .int .u8 r.c]) (.int .i64 k)).run Try.prog u = .ok (.int .u8 (r.at k)) u := by
  obtain rfl | rfl | rfl : k = 0 ∨ k = 1 ∨ k = 2 := by omega
  · exact abc_0 r u
  · exact abc_1 r u
  · exact abc_2 r u


end Go.Proofs.Ytfcfdneganknjaa
