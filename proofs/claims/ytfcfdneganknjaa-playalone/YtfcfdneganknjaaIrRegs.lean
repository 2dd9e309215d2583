/- What numbers, registers, Uses and Sets of package ir return, for every instruction. -/
import Derived.Test.YtfcfdneganknjaaIrName
namespace Go.Proofs.Ytfcfdneganknjaa
set_option linter.unusedVariables false
set_option linter.unusedSimpArgs false
open Go.RowKit

theorem row_only (w : World) (g : Nat) (x : Int) (h0 : w.cell? ⟨g, 0, none⟩ = some (.int .i64 x)) : RowOf .i64 w (g + 1) (some ⟨g, 0, none⟩) [x] := by
  intro i z hz
  match i, hz with
  | 0, hz => simp at hz; subst hz; exact ⟨g, 0, rfl, by omega, h0⟩

/-- An instruction. -/
structure InsD where
  op : Nat
  a : Int
  b : Int
  c : Int
def InsD.at (x : InsD) (k : Nat) : Int := if k = 0 then x.a else if k = 1 then x.b else x.c
theorem ins_0 (x : InsD) (u : World) : (Instr.index 94 (.agg #[.int .i64 x.a, .int .i64 x.b, .int .i64 x.c]) (.int .i64 0)).run Try.prog u = .ok (.int .i64 x.a) u := by kernel_rfl
theorem ins_1 (x : InsD) (u : World) : (Instr.index 94 (.agg #[.int .i64 x.a, .int .i64 x.b, .int .i64 x.c]) (.int .i64 1)).run Try.prog u = .ok (.int .i64 x.b) u := by kernel_rfl
theorem ins_2 (x : InsD) (u : World) : (Instr.index 94 (.agg #[.int .i64 x.a, .int .i64 x.b, .int .i64 x.c]) (.int .i64 2)).run Try.prog u = .ok (.int .i64 x.c) u := by kernel_rfl
theorem ins_at (x : InsD) (k : Nat) (h : k < 3) (u : World) : (Instr.index 94 (.agg #[.int .i64 x.a, .int .i64 x.b, .int .i64 x.c]) (.int .i64 k)).run Try.prog u = .ok (.int .i64 (x.at k)) u := by
  obtain rfl | rfl | rfl : k = 0 ∨ k = 1 ∨ k = 2 := by omega
  · exact ins_0 x u
  · exact ins_1 x u
  · exact ins_2 x u

set_option maxHeartbeats 1000000 in
theorem numbers_any (op a b c : Int) (w : World) :
    Calls Try.prog 88 #[.agg #[.int .u8 op, .int .i64 a, .int .i64 b, .int .i64 c]] w fun e w' => e = .returned (.agg #[.int .i64 a, .int .i64 b, .int .i64 c]) ∧ Below w.heap.size w w' := by
  go_enter Try.func88, Try.ntmps88
  go_wp2
  refine bodyPost_ret (v := .agg #[.int .i64 a, .int .i64 b, .int .i64 c]) (by simp [results, Try.results88, go_sem]) rfl ⟨rfl, ?_⟩
  exact ((Below.refl _ _).alloc (Nat.le_refl _) _).alloc (by simp) _

theorem cells4 {w : World} {g : Nat} {a b c d : Value} {t : TypeId} {fr : Nat × Nat} (h : w.heap[g]? = some (.cells #[a, b, c, d] t fr)) :
    w.cell? ⟨g, 0, none⟩ = some a ∧ w.cell? ⟨g, 1, none⟩ = some b ∧ w.cell? ⟨g, 2, none⟩ = some c ∧ w.cell? ⟨g, 3, none⟩ = some d :=
  ⟨cell_of_row w g 0 _ _ _ h, cell_of_row w g 1 _ _ _ h, cell_of_row w g 2 _ _ _ h, cell_of_row w g 3 _ _ _ h⟩
theorem abc_cell {w : World} {g : Nat} {r : Row} {t : TypeId} {fr : Nat × Nat} (h : w.heap[g]? = some (.cells #[.int .u8 r.a, .int .u8 r.b, .int .u8 r.c] t fr)) (k : Nat) (hk : k < 3) :
    w.cell? ⟨g, k, none⟩ = some (.int .u8 (r.at k)) := by
  rw [cell_of_row w g k _ _ _ h]
  obtain rfl | rfl | rfl : k = 0 ∨ k = 1 ∨ k = 2 := by omega
  · rfl
  · rfl
  · rfl

/-- The registers among an instruction's first k numbers that the row calls wd, as a set. -/
def regN (r : Row) (x : InsD) (wd : Int) : Nat → Nat
  | 0 => 0
  | k + 1 => if r.at k = wd then putN (regN r x wd k) [x.at k] else regN r x wd k
theorem regN_lt (r : Row) (x : InsD) (wd : Int) : ∀ k, regN r x wd k < U
  | 0 => by show 0 < U; decide
  | k + 1 => by
    unfold regN
    split
    · exact putN_lt _ _ (regN_lt r x wd k)
    · exact regN_lt r x wd k


end Go.Proofs.Ytfcfdneganknjaa
