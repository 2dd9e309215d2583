/- What package ir's row of an instruction is, and Plain, Acquire, Release, for every instruction. -/
import Derived.Test.YtfcfdneganknjaaIrTable
namespace Go.Proofs.Ytfcfdneganknjaa
set_option linter.unusedVariables false
set_option linter.unusedSimpArgs false
open Go.RowKit

theorem cut_tab : (List.range 28).map (fun k => List.take 7 (List.drop (k * 7) tabCells)) = (List.range 28).map (fun k => (rowAt k).cells) := by kernel_rfl
theorem cut_at (k : Nat) (h : k < 28) : List.take 7 (List.drop (k * 7) tabCells) = (rowAt k).cells := by
  have := congrArg (fun l => l[k]?) cut_tab
  simpa [h] using this

theorem run_index_tab (kd : IntKind) (k : Nat) (h : k < 28) (u : World) : (Instr.index 145 (.agg tabCells.toArray) (.int kd k)).run Try.prog u = .ok (.agg (rowAt k).cells.toArray) u := by
  have h1 : (k : Int) < 28 := by omega
  simp [Instr.index, asIntOf, run_underlying Try.underlying145, h1]
  rw [if_pos h]
  simp [part, cut_at k h]

theorem rowAt_out (k : Nat) (h : 28 ≤ k) : rowAt k = noRow := by
  unfold rowAt
  rw [List.getD_eq_getElem?_getD, List.getElem?_eq_none (by simpa [tab] using h)]; rfl

/-- A row as a value. -/
def Row.val (r : Row) : Value := .agg #[.string r.name, .int .u8 r.a, .int .u8 r.b, .int .u8 r.c, .bool r.plain, .bool r.acq, .bool r.rel]
theorem Row.val_eq (r : Row) : Value.agg r.cells.toArray = r.val := rfl

theorem row_size (r : Row) : (Try.prog.info? 135).map (·.size) = some r.cells.toArray.size := info_row
theorem row_one_cells (r : Row) : r.cells.toArray.all (·.oneCell') = true := by simp [Row.cells, Value.oneCell']
/-- A block that was new when a call began. -/
theorem kept_new {w w1 : World} {o : Obj} (h : Below (w.alloc o).heap.size (w.alloc o) w1) : w1.heap[w.heap.size]? = some o := (h.block _ (by simp)).trans (heap_alloc_new _ _)

set_option maxHeartbeats 1000000 in
theorem of_in (k : Nat) (w : World) (h : k < 28) :
    Calls Try.prog 87 #[.int .u8 k] w fun e w' => e = .returned (rowAt k).val ∧ Below w.heap.size w w' := by
  have hd : decide ((28 : Int) ≤ (k : Int)) = false := by simp; omega
  have hi := run_index_tab .u8 k h
  go_enter Try.func87, Try.ntmps87
  go_wp2_with (first
    | (go_at_call 92; refine (table_any _).mono ?_; rintro e w1 ⟨rfl, hB1⟩)
    | (refine wpList_store_row rfl 135 (.tmp 2) (.tmp 8) rfl w.heap.size (rowAt k).cells.toArray rfl rfl 135 _ (kept_new hB1) (row_size _) rfl (row_one_cells _) ?_))
  refine bodyPost_ret (v := (rowAt k).val) (results_cell_row rfl _ _ w.heap.size 135 (rowAt k).cells.toArray (0, 0) _ rfl (setRow_heap _ _ _ _ _ _ (kept_new hB1)) Try.underlying135 rfl (row_size _)) rfl ⟨rfl, ?_⟩
  exact below_setRow (((Below.refl _ _).alloc (Nat.le_refl _) _).trans (hB1.mono (by simp))) (Nat.le_refl _) _

set_option maxHeartbeats 1000000 in
theorem of_out (k : Nat) (w : World) (h : 28 ≤ k) :
    Calls Try.prog 87 #[.int .u8 k] w fun e w' => e = .returned (rowAt k).val ∧ Below w.heap.size w w' := by
  have hd : decide ((28 : Int) ≤ (k : Int)) = true := by simp; omega
  rw [rowAt_out k h]
  go_enter Try.func87, Try.ntmps87
  go_wp2_with (first
    | (refine wpList_store_row rfl 135 (.tmp 2) (.tmp 5) rfl w.heap.size noRow.cells.toArray rfl rfl 135 _ (heap_alloc_new _ _) (row_size _) rfl (row_one_cells _) ?_))
  refine bodyPost_ret (v := noRow.val) (results_cell_row rfl _ _ w.heap.size 135 noRow.cells.toArray (0, 0) _ rfl (setRow_heap _ _ _ _ _ _ (heap_alloc_new _ _)) Try.underlying135 rfl (row_size _)) rfl ⟨rfl, ?_⟩
  exact below_setRow ((Below.refl _ _).alloc (Nat.le_refl _) _) (Nat.le_refl _) _

theorem of_any (k : Nat) (w : World) :
    Calls Try.prog 87 #[.int .u8 k] w fun e w' => e = .returned (rowAt k).val ∧ Below w.heap.size w w' := by
  rcases Nat.lt_or_ge k 28 with h | h
  · exact of_in k w h
  · exact of_out k w h

/-- The same, the row laid open. -/
theorem of_row (k : Nat) (w : World) :
    Calls Try.prog 87 #[.int .u8 k] w fun e w' => e = .returned (.agg #[.string (rowAt k).name, .int .u8 (rowAt k).a, .int .u8 (rowAt k).b, .int .u8 (rowAt k).c, .bool (rowAt k).plain, .bool (rowAt k).acq, .bool (rowAt k).rel]) ∧ Below w.heap.size w w' := of_any k w

theorem field_plain (r : Row) (u : World) : (Instr.field 135 (.agg #[.string r.name, .int .u8 r.a, .int .u8 r.b, .int .u8 r.c, .bool r.plain, .bool r.acq, .bool r.rel]) 2).run Try.prog u = .ok (.bool r.plain) u := by kernel_rfl
theorem field_acq (r : Row) (u : World) : (Instr.field 135 (.agg #[.string r.name, .int .u8 r.a, .int .u8 r.b, .int .u8 r.c, .bool r.plain, .bool r.acq, .bool r.rel]) 3).run Try.prog u = .ok (.bool r.acq) u := by kernel_rfl
theorem field_rel (r : Row) (u : World) : (Instr.field 135 (.agg #[.string r.name, .int .u8 r.a, .int .u8 r.b, .int .u8 r.c, .bool r.plain, .bool r.acq, .bool r.rel]) 4).run Try.prog u = .ok (.bool r.rel) u := by kernel_rfl
theorem field_abc (r : Row) (u : World) : (Instr.field 135 (.agg #[.string r.name, .int .u8 r.a, .int .u8 r.b, .int .u8 r.c, .bool r.plain, .bool r.acq, .bool r.rel]) 1).run Try.prog u = .ok (.agg #[.int .u8 r.a, .int .u8 r.b, .int .u8 r.c]) u := by kernel_rfl


end Go.Proofs.Ytfcfdneganknjaa
