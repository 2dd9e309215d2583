/- What the laws' own choice of an instruction ('Ins') returns: one that may be in a program of the laws' making, for every choice. -/
import Derived.Test.YtfcfdneganknjaaIrIns
import Derived.Great.BuildSlice
namespace Go.Proofs.Ytfcfdneganknjaa
set_option linter.unusedVariables false
set_option linter.unusedSimpArgs false
open Go.RowKit

/-- The choices' instructions. -/
def opsL : List Int := [7, 8, 9, 1, 3, 7, 8, 9, 13, 14, 15, 16, 17, 18, 19, 20, 21, 22, 23, 24, 25, 26, 27, 11, 10, 0, 2, 4, 5, 6, 7, 8, 13, 14, 9, 8]
abbrev zeroIns : Obj := .cells #[.int .u8 0, .int .i64 0, .int .i64 0, .int .i64 0] 54
theorem ops_cell (j : Nat) (k : Int) (h : opsL[j]? = some k) (w : World) : ((w.alloc zeroIns).alloc (.cells (opsL.map (Value.int .u8)).toArray 5)).cell? ⟨w.heap.size + 1, j, none⟩ = some (.int .u8 k) := by
  rw [cell_of_row _ _ _ _ _ _ (heap_alloc2_new _ _ _)]
  simp [h]

set_option maxHeartbeats 1000000 in
theorem ins_op_0 (a b : Nat) (at' n : Int) (w : World) (ha : a < 256) (hb : b < 256) (h1 : 0 ≤ at') (h2 : at' < n) (h3 : n ≤ 60) (j : Nat) (hj : (a : Int) % 36 = (j : Int)) (hlt : j < 36) (hop : opsL[j]? = some 0) :
    Calls Try.prog 19 #[.int .u8 a, .int .u8 b, .int .i64 at', .int .i64 n] w fun e w' => ∃ x : InsD, e = .returned (.agg #[.int .u8 x.op, .int .i64 x.a, .int .i64 x.b, .int .i64 x.c]) ∧ InsOK n x ∧ Below w.heap.size w w' := by
  have hcell := ops_cell j _ hop w
  have hlt' : (j : Int) < 36 := by omega
  clear hop
  go_enter Try.func19, Try.ntmps19
  go_wp2_with (refine wpList_buildFlat rfl 22 5 36 _ rfl .u8 opsL Try.underlying22 (by kernel_rfl) (by kernel_rfl) rfl (by decide) (by decide) rfl ?_)
  refine bodyPost_ret (v := .agg #[.int .u8 0, .int .i64 0, .int .i64 0, .int .i64 0]) (by simp [results, Try.results19, go_sem]) rfl ⟨⟨0, 0, 0, 0⟩, rfl, ?_, ?_⟩
  · exact ins_ok_0 _ _ _ _ (by omega)
  · exact ins_below _ _ _

set_option maxHeartbeats 1000000 in
theorem ins_op_1 (a b : Nat) (at' n : Int) (w : World) (ha : a < 256) (hb : b < 256) (h1 : 0 ≤ at') (h2 : at' < n) (h3 : n ≤ 60) (j : Nat) (hj : (a : Int) % 36 = (j : Int)) (hlt : j < 36) (hop : opsL[j]? = some 1) :
    Calls Try.prog 19 #[.int .u8 a, .int .u8 b, .int .i64 at', .int .i64 n] w fun e w' => ∃ x : InsD, e = .returned (.agg #[.int .u8 x.op, .int .i64 x.a, .int .i64 x.b, .int .i64 x.c]) ∧ InsOK n x ∧ Below w.heap.size w w' := by
  have hcell := ops_cell j _ hop w
  have hlt' : (j : Int) < 36 := by omega
  clear hop
  go_enter Try.func19, Try.ntmps19
  go_wp2_with (refine wpList_buildFlat rfl 22 5 36 _ rfl .u8 opsL Try.underlying22 (by kernel_rfl) (by kernel_rfl) rfl (by decide) (by decide) rfl ?_)
  refine bodyPost_ret (v := .agg #[.int .u8 1, .int .i64 ((b : Int) % 4), .int .i64 ((b : Int) / 4 % 8), .int .i64 0]) (by simp [results, Try.results19, go_sem]) rfl ⟨⟨1, ((b : Int) % 4), ((b : Int) / 4 % 8), 0⟩, rfl, ?_, ?_⟩
  · exact ins_ok_1 _ _ _ _ (by omega)
  · exact ins_below _ _ _

set_option maxHeartbeats 1000000 in
theorem ins_op_2 (a b : Nat) (at' n : Int) (w : World) (ha : a < 256) (hb : b < 256) (h1 : 0 ≤ at') (h2 : at' < n) (h3 : n ≤ 60) (j : Nat) (hj : (a : Int) % 36 = (j : Int)) (hlt : j < 36) (hop : opsL[j]? = some 2) :
    Calls Try.prog 19 #[.int .u8 a, .int .u8 b, .int .i64 at', .int .i64 n] w fun e w' => ∃ x : InsD, e = .returned (.agg #[.int .u8 x.op, .int .i64 x.a, .int .i64 x.b, .int .i64 x.c]) ∧ InsOK n x ∧ Below w.heap.size w w' := by
  have hcell := ops_cell j _ hop w
  have hlt' : (j : Int) < 36 := by omega
  clear hop
  go_enter Try.func19, Try.ntmps19
  go_wp2_with (refine wpList_buildFlat rfl 22 5 36 _ rfl .u8 opsL Try.underlying22 (by kernel_rfl) (by kernel_rfl) rfl (by decide) (by decide) rfl ?_)
  refine bodyPost_ret (v := .agg #[.int .u8 2, .int .i64 ((b : Int) % 4), .int .i64 ((b : Int) / 4 % 4), .int .i64 0]) (by simp [results, Try.results19, go_sem]) rfl ⟨⟨2, ((b : Int) % 4), ((b : Int) / 4 % 4), 0⟩, rfl, ?_, ?_⟩
  · exact ins_ok_2 _ _ _ _ (by omega)
  · exact ins_below _ _ _

set_option maxHeartbeats 1000000 in
theorem ins_op_3 (a b : Nat) (at' n : Int) (w : World) (ha : a < 256) (hb : b < 256) (h1 : 0 ≤ at') (h2 : at' < n) (h3 : n ≤ 60) (j : Nat) (hj : (a : Int) % 36 = (j : Int)) (hlt : j < 36) (hop : opsL[j]? = some 3) :
    Calls Try.prog 19 #[.int .u8 a, .int .u8 b, .int .i64 at', .int .i64 n] w fun e w' => ∃ x : InsD, e = .returned (.agg #[.int .u8 x.op, .int .i64 x.a, .int .i64 x.b, .int .i64 x.c]) ∧ InsOK n x ∧ Below w.heap.size w w' := by
  have hcell := ops_cell j _ hop w
  have hlt' : (j : Int) < 36 := by omega
  clear hop
  go_enter Try.func19, Try.ntmps19
  go_wp2_with (refine wpList_buildFlat rfl 22 5 36 _ rfl .u8 opsL Try.underlying22 (by kernel_rfl) (by kernel_rfl) rfl (by decide) (by decide) rfl ?_)
  refine bodyPost_ret (v := .agg #[.int .u8 3, .int .i64 ((b : Int) % 4), .int .i64 ((b : Int) / 4 % 4), .int .i64 ((b : Int) / 16 % 4)]) (by simp [results, Try.results19, go_sem]) rfl ⟨⟨3, ((b : Int) % 4), ((b : Int) / 4 % 4), ((b : Int) / 16 % 4)⟩, rfl, ?_, ?_⟩
  · exact ins_ok_3 _ _ _ _ (by omega)
  · exact ins_below _ _ _

set_option maxHeartbeats 1000000 in
theorem ins_op_4 (a b : Nat) (at' n : Int) (w : World) (ha : a < 256) (hb : b < 256) (h1 : 0 ≤ at') (h2 : at' < n) (h3 : n ≤ 60) (j : Nat) (hj : (a : Int) % 36 = (j : Int)) (hlt : j < 36) (hop : opsL[j]? = some 4) :
    Calls Try.prog 19 #[.int .u8 a, .int .u8 b, .int .i64 at', .int .i64 n] w fun e w' => ∃ x : InsD, e = .returned (.agg #[.int .u8 x.op, .int .i64 x.a, .int .i64 x.b, .int .i64 x.c]) ∧ InsOK n x ∧ Below w.heap.size w w' := by
  have hcell := ops_cell j _ hop w
  have hlt' : (j : Int) < 36 := by omega
  clear hop
  go_enter Try.func19, Try.ntmps19
  go_wp2_with (refine wpList_buildFlat rfl 22 5 36 _ rfl .u8 opsL Try.underlying22 (by kernel_rfl) (by kernel_rfl) rfl (by decide) (by decide) rfl ?_)
  refine bodyPost_ret (v := .agg #[.int .u8 4, .int .i64 ((b : Int) % 4), .int .i64 ((b : Int) / 4 % 4), .int .i64 ((b : Int) / 16 % 4)]) (by simp [results, Try.results19, go_sem]) rfl ⟨⟨4, ((b : Int) % 4), ((b : Int) / 4 % 4), ((b : Int) / 16 % 4)⟩, rfl, ?_, ?_⟩
  · exact ins_ok_4 _ _ _ _ (by omega)
  · exact ins_below _ _ _

set_option maxHeartbeats 1000000 in
theorem ins_op_5 (a b : Nat) (at' n : Int) (w : World) (ha : a < 256) (hb : b < 256) (h1 : 0 ≤ at') (h2 : at' < n) (h3 : n ≤ 60) (j : Nat) (hj : (a : Int) % 36 = (j : Int)) (hlt : j < 36) (hop : opsL[j]? = some 5) :
    Calls Try.prog 19 #[.int .u8 a, .int .u8 b, .int .i64 at', .int .i64 n] w fun e w' => ∃ x : InsD, e = .returned (.agg #[.int .u8 x.op, .int .i64 x.a, .int .i64 x.b, .int .i64 x.c]) ∧ InsOK n x ∧ Below w.heap.size w w' := by
  have hcell := ops_cell j _ hop w
  have hlt' : (j : Int) < 36 := by omega
  clear hop
  go_enter Try.func19, Try.ntmps19
  go_wp2_with (refine wpList_buildFlat rfl 22 5 36 _ rfl .u8 opsL Try.underlying22 (by kernel_rfl) (by kernel_rfl) rfl (by decide) (by decide) rfl ?_)
  refine bodyPost_ret (v := .agg #[.int .u8 5, .int .i64 ((b : Int) % 4), .int .i64 ((b : Int) / 4 % 4), .int .i64 ((b : Int) / 16 % 4)]) (by simp [results, Try.results19, go_sem]) rfl ⟨⟨5, ((b : Int) % 4), ((b : Int) / 4 % 4), ((b : Int) / 16 % 4)⟩, rfl, ?_, ?_⟩
  · exact ins_ok_5 _ _ _ _ (by omega)
  · exact ins_below _ _ _

set_option maxHeartbeats 1000000 in
theorem ins_op_6 (a b : Nat) (at' n : Int) (w : World) (ha : a < 256) (hb : b < 256) (h1 : 0 ≤ at') (h2 : at' < n) (h3 : n ≤ 60) (j : Nat) (hj : (a : Int) % 36 = (j : Int)) (hlt : j < 36) (hop : opsL[j]? = some 6) :
    Calls Try.prog 19 #[.int .u8 a, .int .u8 b, .int .i64 at', .int .i64 n] w fun e w' => ∃ x : InsD, e = .returned (.agg #[.int .u8 x.op, .int .i64 x.a, .int .i64 x.b, .int .i64 x.c]) ∧ InsOK n x ∧ Below w.heap.size w w' := by
  have hcell := ops_cell j _ hop w
  have hlt' : (j : Int) < 36 := by omega
  clear hop
  go_enter Try.func19, Try.ntmps19
  go_wp2_with (refine wpList_buildFlat rfl 22 5 36 _ rfl .u8 opsL Try.underlying22 (by kernel_rfl) (by kernel_rfl) rfl (by decide) (by decide) rfl ?_)
  refine bodyPost_ret (v := .agg #[.int .u8 6, .int .i64 ((b : Int) % 4), .int .i64 ((b : Int) / 4 % 4), .int .i64 ((b : Int) / 16 % 4)]) (by simp [results, Try.results19, go_sem]) rfl ⟨⟨6, ((b : Int) % 4), ((b : Int) / 4 % 4), ((b : Int) / 16 % 4)⟩, rfl, ?_, ?_⟩
  · exact ins_ok_6 _ _ _ _ (by omega)
  · exact ins_below _ _ _

set_option maxHeartbeats 1000000 in
theorem ins_op_7 (a b : Nat) (at' n : Int) (w : World) (ha : a < 256) (hb : b < 256) (h1 : 0 ≤ at') (h2 : at' < n) (h3 : n ≤ 60) (j : Nat) (hj : (a : Int) % 36 = (j : Int)) (hlt : j < 36) (hop : opsL[j]? = some 7) :
    Calls Try.prog 19 #[.int .u8 a, .int .u8 b, .int .i64 at', .int .i64 n] w fun e w' => ∃ x : InsD, e = .returned (.agg #[.int .u8 x.op, .int .i64 x.a, .int .i64 x.b, .int .i64 x.c]) ∧ InsOK n x ∧ Below w.heap.size w w' := by
  have hcell := ops_cell j _ hop w
  have hlt' : (j : Int) < 36 := by omega
  clear hop
  go_enter Try.func19, Try.ntmps19
  go_wp2_with (refine wpList_buildFlat rfl 22 5 36 _ rfl .u8 opsL Try.underlying22 (by kernel_rfl) (by kernel_rfl) rfl (by decide) (by decide) rfl ?_)
  refine bodyPost_ret (v := .agg #[.int .u8 7, .int .i64 ((b : Int) % 4), .int .i64 ((b : Int) / 16 % 2), .int .i64 0]) (by simp [results, Try.results19, go_sem]) rfl ⟨⟨7, ((b : Int) % 4), ((b : Int) / 16 % 2), 0⟩, rfl, ?_, ?_⟩
  · exact ins_ok_7 _ _ _ _ (by omega)
  · exact ins_below _ _ _

set_option maxHeartbeats 1000000 in
theorem ins_op_8 (a b : Nat) (at' n : Int) (w : World) (ha : a < 256) (hb : b < 256) (h1 : 0 ≤ at') (h2 : at' < n) (h3 : n ≤ 60) (j : Nat) (hj : (a : Int) % 36 = (j : Int)) (hlt : j < 36) (hop : opsL[j]? = some 8) :
    Calls Try.prog 19 #[.int .u8 a, .int .u8 b, .int .i64 at', .int .i64 n] w fun e w' => ∃ x : InsD, e = .returned (.agg #[.int .u8 x.op, .int .i64 x.a, .int .i64 x.b, .int .i64 x.c]) ∧ InsOK n x ∧ Below w.heap.size w w' := by
  have hcell := ops_cell j _ hop w
  have hlt' : (j : Int) < 36 := by omega
  clear hop
  go_enter Try.func19, Try.ntmps19
  go_wp2_with (refine wpList_buildFlat rfl 22 5 36 _ rfl .u8 opsL Try.underlying22 (by kernel_rfl) (by kernel_rfl) rfl (by decide) (by decide) rfl ?_)
  refine bodyPost_ret (v := .agg #[.int .u8 8, .int .i64 ((b : Int) / 16 % 2), .int .i64 ((b : Int) % 4), .int .i64 0]) (by simp [results, Try.results19, go_sem]) rfl ⟨⟨8, ((b : Int) / 16 % 2), ((b : Int) % 4), 0⟩, rfl, ?_, ?_⟩
  · exact ins_ok_8 _ _ _ _ (by omega)
  · exact ins_below _ _ _

set_option maxHeartbeats 1000000 in
theorem ins_op_9 (a b : Nat) (at' n : Int) (w : World) (ha : a < 256) (hb : b < 256) (h1 : 0 ≤ at') (h2 : at' < n) (h3 : n ≤ 60) (j : Nat) (hj : (a : Int) % 36 = (j : Int)) (hlt : j < 36) (hop : opsL[j]? = some 9) :
    Calls Try.prog 19 #[.int .u8 a, .int .u8 b, .int .i64 at', .int .i64 n] w fun e w' => ∃ x : InsD, e = .returned (.agg #[.int .u8 x.op, .int .i64 x.a, .int .i64 x.b, .int .i64 x.c]) ∧ InsOK n x ∧ Below w.heap.size w w' := by
  have hcell := ops_cell j _ hop w
  have hlt' : (j : Int) < 36 := by omega
  clear hop
  go_enter Try.func19, Try.ntmps19
  go_wp2_with (refine wpList_buildFlat rfl 22 5 36 _ rfl .u8 opsL Try.underlying22 (by kernel_rfl) (by kernel_rfl) rfl (by decide) (by decide) rfl ?_)
  refine bodyPost_ret (v := .agg #[.int .u8 9, .int .i64 ((b : Int) % 4), .int .i64 0, .int .i64 0]) (by simp [results, Try.results19, go_sem]) rfl ⟨⟨9, ((b : Int) % 4), 0, 0⟩, rfl, ?_, ?_⟩
  · exact ins_ok_9 _ _ _ _ (by omega)
  · exact ins_below _ _ _

set_option maxHeartbeats 1000000 in
theorem ins_op_10 (a b : Nat) (at' n : Int) (w : World) (ha : a < 256) (hb : b < 256) (h1 : 0 ≤ at') (h2 : at' < n) (h3 : n ≤ 60) (j : Nat) (hj : (a : Int) % 36 = (j : Int)) (hlt : j < 36) (hop : opsL[j]? = some 10) :
    Calls Try.prog 19 #[.int .u8 a, .int .u8 b, .int .i64 at', .int .i64 n] w fun e w' => ∃ x : InsD, e = .returned (.agg #[.int .u8 x.op, .int .i64 x.a, .int .i64 x.b, .int .i64 x.c]) ∧ InsOK n x ∧ Below w.heap.size w w' := by
  have hcell := ops_cell j _ hop w
  have hlt' : (j : Int) < 36 := by omega
  clear hop
  by_cases hm : at' + 1 + (b : Int) / 4 % 4 ≤ n
  · skip
    go_enter Try.func19, Try.ntmps19
    go_wp2_with (refine wpList_buildFlat rfl 22 5 36 _ rfl .u8 opsL Try.underlying22 (by kernel_rfl) (by kernel_rfl) rfl (by decide) (by decide) rfl ?_)
    refine bodyPost_ret (v := .agg #[.int .u8 10, .int .i64 (at' + 1 + (b : Int) / 4 % 4), .int .i64 0, .int .i64 0]) (by simp [results, Try.results19, go_sem]) rfl ⟨⟨10, (at' + 1 + (b : Int) / 4 % 4), 0, 0⟩, rfl, ?_, ?_⟩
    · exact ins_ok_10 _ _ _ _ (by omega)
    · exact ins_below _ _ _
  · have hm' : n < at' + 1 + (b : Int) / 4 % 4 := by omega
    go_enter Try.func19, Try.ntmps19
    go_wp2_with (refine wpList_buildFlat rfl 22 5 36 _ rfl .u8 opsL Try.underlying22 (by kernel_rfl) (by kernel_rfl) rfl (by decide) (by decide) rfl ?_)
    refine bodyPost_ret (v := .agg #[.int .u8 10, .int .i64 n, .int .i64 0, .int .i64 0]) (by simp [results, Try.results19, go_sem]) rfl ⟨⟨10, n, 0, 0⟩, rfl, ?_, ?_⟩
    · exact ins_ok_10 _ _ _ _ (by omega)
    · exact ins_below _ _ _

set_option maxHeartbeats 1000000 in
theorem ins_op_11 (a b : Nat) (at' n : Int) (w : World) (ha : a < 256) (hb : b < 256) (h1 : 0 ≤ at') (h2 : at' < n) (h3 : n ≤ 60) (j : Nat) (hj : (a : Int) % 36 = (j : Int)) (hlt : j < 36) (hop : opsL[j]? = some 11) :
    Calls Try.prog 19 #[.int .u8 a, .int .u8 b, .int .i64 at', .int .i64 n] w fun e w' => ∃ x : InsD, e = .returned (.agg #[.int .u8 x.op, .int .i64 x.a, .int .i64 x.b, .int .i64 x.c]) ∧ InsOK n x ∧ Below w.heap.size w w' := by
  have hcell := ops_cell j _ hop w
  have hlt' : (j : Int) < 36 := by omega
  clear hop
  by_cases hq : 200 ≤ (b : Int)
  · have hd : decide (200 ≤ (b : Int)) = true := by simp; omega
    by_cases hm : 0 ≤ at' - (b : Int) / 4 % 4
    · skip
      go_enter Try.func19, Try.ntmps19
      go_wp2_with (refine wpList_buildFlat rfl 22 5 36 _ rfl .u8 opsL Try.underlying22 (by kernel_rfl) (by kernel_rfl) rfl (by decide) (by decide) rfl ?_)
      refine bodyPost_ret (v := .agg #[.int .u8 11, .int .i64 ((b : Int) % 4), .int .i64 (at' - (b : Int) / 4 % 4), .int .i64 0]) (by simp [results, Try.results19, go_sem]) rfl ⟨⟨11, ((b : Int) % 4), (at' - (b : Int) / 4 % 4), 0⟩, rfl, ?_, ?_⟩
      · exact ins_ok_11 _ _ _ _ (by omega)
      · exact ins_below _ _ _
    · have hm' : at' - (b : Int) / 4 % 4 < 0 := by omega
      go_enter Try.func19, Try.ntmps19
      go_wp2_with (refine wpList_buildFlat rfl 22 5 36 _ rfl .u8 opsL Try.underlying22 (by kernel_rfl) (by kernel_rfl) rfl (by decide) (by decide) rfl ?_)
      refine bodyPost_ret (v := .agg #[.int .u8 11, .int .i64 ((b : Int) % 4), .int .i64 0, .int .i64 0]) (by simp [results, Try.results19, go_sem]) rfl ⟨⟨11, ((b : Int) % 4), 0, 0⟩, rfl, ?_, ?_⟩
      · exact ins_ok_11 _ _ _ _ (by omega)
      · exact ins_below _ _ _
  · have hd : decide (200 ≤ (b : Int)) = false := by simp; omega
    by_cases hm : at' + 1 + (b : Int) / 4 % 4 ≤ n
    · skip
      go_enter Try.func19, Try.ntmps19
      go_wp2_with (refine wpList_buildFlat rfl 22 5 36 _ rfl .u8 opsL Try.underlying22 (by kernel_rfl) (by kernel_rfl) rfl (by decide) (by decide) rfl ?_)
      refine bodyPost_ret (v := .agg #[.int .u8 11, .int .i64 ((b : Int) % 4), .int .i64 (at' + 1 + (b : Int) / 4 % 4), .int .i64 0]) (by simp [results, Try.results19, go_sem]) rfl ⟨⟨11, ((b : Int) % 4), (at' + 1 + (b : Int) / 4 % 4), 0⟩, rfl, ?_, ?_⟩
      · exact ins_ok_11 _ _ _ _ (by omega)
      · exact ins_below _ _ _
    · have hm' : n < at' + 1 + (b : Int) / 4 % 4 := by omega
      go_enter Try.func19, Try.ntmps19
      go_wp2_with (refine wpList_buildFlat rfl 22 5 36 _ rfl .u8 opsL Try.underlying22 (by kernel_rfl) (by kernel_rfl) rfl (by decide) (by decide) rfl ?_)
      refine bodyPost_ret (v := .agg #[.int .u8 11, .int .i64 ((b : Int) % 4), .int .i64 n, .int .i64 0]) (by simp [results, Try.results19, go_sem]) rfl ⟨⟨11, ((b : Int) % 4), n, 0⟩, rfl, ?_, ?_⟩
      · exact ins_ok_11 _ _ _ _ (by omega)
      · exact ins_below _ _ _

set_option maxHeartbeats 1000000 in
theorem ins_op_13 (a b : Nat) (at' n : Int) (w : World) (ha : a < 256) (hb : b < 256) (h1 : 0 ≤ at') (h2 : at' < n) (h3 : n ≤ 60) (j : Nat) (hj : (a : Int) % 36 = (j : Int)) (hlt : j < 36) (hop : opsL[j]? = some 13) :
    Calls Try.prog 19 #[.int .u8 a, .int .u8 b, .int .i64 at', .int .i64 n] w fun e w' => ∃ x : InsD, e = .returned (.agg #[.int .u8 x.op, .int .i64 x.a, .int .i64 x.b, .int .i64 x.c]) ∧ InsOK n x ∧ Below w.heap.size w w' := by
  have hcell := ops_cell j _ hop w
  have hlt' : (j : Int) < 36 := by omega
  clear hop
  go_enter Try.func19, Try.ntmps19
  go_wp2_with (refine wpList_buildFlat rfl 22 5 36 _ rfl .u8 opsL Try.underlying22 (by kernel_rfl) (by kernel_rfl) rfl (by decide) (by decide) rfl ?_)
  refine bodyPost_ret (v := .agg #[.int .u8 13, .int .i64 0, .int .i64 0, .int .i64 0]) (by simp [results, Try.results19, go_sem]) rfl ⟨⟨13, 0, 0, 0⟩, rfl, ?_, ?_⟩
  · exact ins_ok_13 _ _ _ _ (by omega)
  · exact ins_below _ _ _

set_option maxHeartbeats 1000000 in
theorem ins_op_14 (a b : Nat) (at' n : Int) (w : World) (ha : a < 256) (hb : b < 256) (h1 : 0 ≤ at') (h2 : at' < n) (h3 : n ≤ 60) (j : Nat) (hj : (a : Int) % 36 = (j : Int)) (hlt : j < 36) (hop : opsL[j]? = some 14) :
    Calls Try.prog 19 #[.int .u8 a, .int .u8 b, .int .i64 at', .int .i64 n] w fun e w' => ∃ x : InsD, e = .returned (.agg #[.int .u8 x.op, .int .i64 x.a, .int .i64 x.b, .int .i64 x.c]) ∧ InsOK n x ∧ Below w.heap.size w w' := by
  have hcell := ops_cell j _ hop w
  have hlt' : (j : Int) < 36 := by omega
  clear hop
  go_enter Try.func19, Try.ntmps19
  go_wp2_with (refine wpList_buildFlat rfl 22 5 36 _ rfl .u8 opsL Try.underlying22 (by kernel_rfl) (by kernel_rfl) rfl (by decide) (by decide) rfl ?_)
  refine bodyPost_ret (v := .agg #[.int .u8 14, .int .i64 0, .int .i64 0, .int .i64 0]) (by simp [results, Try.results19, go_sem]) rfl ⟨⟨14, 0, 0, 0⟩, rfl, ?_, ?_⟩
  · exact ins_ok_14 _ _ _ _ (by omega)
  · exact ins_below _ _ _

set_option maxHeartbeats 1000000 in
theorem ins_op_15 (a b : Nat) (at' n : Int) (w : World) (ha : a < 256) (hb : b < 256) (h1 : 0 ≤ at') (h2 : at' < n) (h3 : n ≤ 60) (j : Nat) (hj : (a : Int) % 36 = (j : Int)) (hlt : j < 36) (hop : opsL[j]? = some 15) :
    Calls Try.prog 19 #[.int .u8 a, .int .u8 b, .int .i64 at', .int .i64 n] w fun e w' => ∃ x : InsD, e = .returned (.agg #[.int .u8 x.op, .int .i64 x.a, .int .i64 x.b, .int .i64 x.c]) ∧ InsOK n x ∧ Below w.heap.size w w' := by
  have hcell := ops_cell j _ hop w
  have hlt' : (j : Int) < 36 := by omega
  clear hop
  go_enter Try.func19, Try.ntmps19
  go_wp2_with (refine wpList_buildFlat rfl 22 5 36 _ rfl .u8 opsL Try.underlying22 (by kernel_rfl) (by kernel_rfl) rfl (by decide) (by decide) rfl ?_)
  refine bodyPost_ret (v := .agg #[.int .u8 15, .int .i64 0, .int .i64 0, .int .i64 0]) (by simp [results, Try.results19, go_sem]) rfl ⟨⟨15, 0, 0, 0⟩, rfl, ?_, ?_⟩
  · exact ins_ok_15 _ _ _ _ (by omega)
  · exact ins_below _ _ _

set_option maxHeartbeats 1000000 in
theorem ins_op_16 (a b : Nat) (at' n : Int) (w : World) (ha : a < 256) (hb : b < 256) (h1 : 0 ≤ at') (h2 : at' < n) (h3 : n ≤ 60) (j : Nat) (hj : (a : Int) % 36 = (j : Int)) (hlt : j < 36) (hop : opsL[j]? = some 16) :
    Calls Try.prog 19 #[.int .u8 a, .int .u8 b, .int .i64 at', .int .i64 n] w fun e w' => ∃ x : InsD, e = .returned (.agg #[.int .u8 x.op, .int .i64 x.a, .int .i64 x.b, .int .i64 x.c]) ∧ InsOK n x ∧ Below w.heap.size w w' := by
  have hcell := ops_cell j _ hop w
  have hlt' : (j : Int) < 36 := by omega
  clear hop
  go_enter Try.func19, Try.ntmps19
  go_wp2_with (refine wpList_buildFlat rfl 22 5 36 _ rfl .u8 opsL Try.underlying22 (by kernel_rfl) (by kernel_rfl) rfl (by decide) (by decide) rfl ?_)
  refine bodyPost_ret (v := .agg #[.int .u8 16, .int .i64 0, .int .i64 0, .int .i64 0]) (by simp [results, Try.results19, go_sem]) rfl ⟨⟨16, 0, 0, 0⟩, rfl, ?_, ?_⟩
  · exact ins_ok_16 _ _ _ _ (by omega)
  · exact ins_below _ _ _

set_option maxHeartbeats 1000000 in
theorem ins_op_17 (a b : Nat) (at' n : Int) (w : World) (ha : a < 256) (hb : b < 256) (h1 : 0 ≤ at') (h2 : at' < n) (h3 : n ≤ 60) (j : Nat) (hj : (a : Int) % 36 = (j : Int)) (hlt : j < 36) (hop : opsL[j]? = some 17) :
    Calls Try.prog 19 #[.int .u8 a, .int .u8 b, .int .i64 at', .int .i64 n] w fun e w' => ∃ x : InsD, e = .returned (.agg #[.int .u8 x.op, .int .i64 x.a, .int .i64 x.b, .int .i64 x.c]) ∧ InsOK n x ∧ Below w.heap.size w w' := by
  have hcell := ops_cell j _ hop w
  have hlt' : (j : Int) < 36 := by omega
  clear hop
  go_enter Try.func19, Try.ntmps19
  go_wp2_with (refine wpList_buildFlat rfl 22 5 36 _ rfl .u8 opsL Try.underlying22 (by kernel_rfl) (by kernel_rfl) rfl (by decide) (by decide) rfl ?_)
  refine bodyPost_ret (v := .agg #[.int .u8 17, .int .i64 ((b : Int) % 4), .int .i64 0, .int .i64 0]) (by simp [results, Try.results19, go_sem]) rfl ⟨⟨17, ((b : Int) % 4), 0, 0⟩, rfl, ?_, ?_⟩
  · exact ins_ok_17 _ _ _ _ (by omega)
  · exact ins_below _ _ _

set_option maxHeartbeats 1000000 in
theorem ins_op_18 (a b : Nat) (at' n : Int) (w : World) (ha : a < 256) (hb : b < 256) (h1 : 0 ≤ at') (h2 : at' < n) (h3 : n ≤ 60) (j : Nat) (hj : (a : Int) % 36 = (j : Int)) (hlt : j < 36) (hop : opsL[j]? = some 18) :
    Calls Try.prog 19 #[.int .u8 a, .int .u8 b, .int .i64 at', .int .i64 n] w fun e w' => ∃ x : InsD, e = .returned (.agg #[.int .u8 x.op, .int .i64 x.a, .int .i64 x.b, .int .i64 x.c]) ∧ InsOK n x ∧ Below w.heap.size w w' := by
  have hcell := ops_cell j _ hop w
  have hlt' : (j : Int) < 36 := by omega
  clear hop
  go_enter Try.func19, Try.ntmps19
  go_wp2_with (refine wpList_buildFlat rfl 22 5 36 _ rfl .u8 opsL Try.underlying22 (by kernel_rfl) (by kernel_rfl) rfl (by decide) (by decide) rfl ?_)
  refine bodyPost_ret (v := .agg #[.int .u8 18, .int .i64 0, .int .i64 ((b : Int) % 4), .int .i64 0]) (by simp [results, Try.results19, go_sem]) rfl ⟨⟨18, 0, ((b : Int) % 4), 0⟩, rfl, ?_, ?_⟩
  · exact ins_ok_18 _ _ _ _ (by omega)
  · exact ins_below _ _ _

set_option maxHeartbeats 1000000 in
theorem ins_op_19 (a b : Nat) (at' n : Int) (w : World) (ha : a < 256) (hb : b < 256) (h1 : 0 ≤ at') (h2 : at' < n) (h3 : n ≤ 60) (j : Nat) (hj : (a : Int) % 36 = (j : Int)) (hlt : j < 36) (hop : opsL[j]? = some 19) :
    Calls Try.prog 19 #[.int .u8 a, .int .u8 b, .int .i64 at', .int .i64 n] w fun e w' => ∃ x : InsD, e = .returned (.agg #[.int .u8 x.op, .int .i64 x.a, .int .i64 x.b, .int .i64 x.c]) ∧ InsOK n x ∧ Below w.heap.size w w' := by
  have hcell := ops_cell j _ hop w
  have hlt' : (j : Int) < 36 := by omega
  clear hop
  go_enter Try.func19, Try.ntmps19
  go_wp2_with (refine wpList_buildFlat rfl 22 5 36 _ rfl .u8 opsL Try.underlying22 (by kernel_rfl) (by kernel_rfl) rfl (by decide) (by decide) rfl ?_)
  refine bodyPost_ret (v := .agg #[.int .u8 19, .int .i64 ((b : Int) % 4), .int .i64 0, .int .i64 ((b : Int) / 4 % 4)]) (by simp [results, Try.results19, go_sem]) rfl ⟨⟨19, ((b : Int) % 4), 0, ((b : Int) / 4 % 4)⟩, rfl, ?_, ?_⟩
  · exact ins_ok_19 _ _ _ _ (by omega)
  · exact ins_below _ _ _

set_option maxHeartbeats 1000000 in
theorem ins_op_20 (a b : Nat) (at' n : Int) (w : World) (ha : a < 256) (hb : b < 256) (h1 : 0 ≤ at') (h2 : at' < n) (h3 : n ≤ 60) (j : Nat) (hj : (a : Int) % 36 = (j : Int)) (hlt : j < 36) (hop : opsL[j]? = some 20) :
    Calls Try.prog 19 #[.int .u8 a, .int .u8 b, .int .i64 at', .int .i64 n] w fun e w' => ∃ x : InsD, e = .returned (.agg #[.int .u8 x.op, .int .i64 x.a, .int .i64 x.b, .int .i64 x.c]) ∧ InsOK n x ∧ Below w.heap.size w w' := by
  have hcell := ops_cell j _ hop w
  have hlt' : (j : Int) < 36 := by omega
  clear hop
  go_enter Try.func19, Try.ntmps19
  go_wp2_with (refine wpList_buildFlat rfl 22 5 36 _ rfl .u8 opsL Try.underlying22 (by kernel_rfl) (by kernel_rfl) rfl (by decide) (by decide) rfl ?_)
  refine bodyPost_ret (v := .agg #[.int .u8 20, .int .i64 0, .int .i64 ((b : Int) % 4), .int .i64 0]) (by simp [results, Try.results19, go_sem]) rfl ⟨⟨20, 0, ((b : Int) % 4), 0⟩, rfl, ?_, ?_⟩
  · exact ins_ok_20 _ _ _ _ (by omega)
  · exact ins_below _ _ _

set_option maxHeartbeats 1000000 in
theorem ins_op_21 (a b : Nat) (at' n : Int) (w : World) (ha : a < 256) (hb : b < 256) (h1 : 0 ≤ at') (h2 : at' < n) (h3 : n ≤ 60) (j : Nat) (hj : (a : Int) % 36 = (j : Int)) (hlt : j < 36) (hop : opsL[j]? = some 21) :
    Calls Try.prog 19 #[.int .u8 a, .int .u8 b, .int .i64 at', .int .i64 n] w fun e w' => ∃ x : InsD, e = .returned (.agg #[.int .u8 x.op, .int .i64 x.a, .int .i64 x.b, .int .i64 x.c]) ∧ InsOK n x ∧ Below w.heap.size w w' := by
  have hcell := ops_cell j _ hop w
  have hlt' : (j : Int) < 36 := by omega
  clear hop
  go_enter Try.func19, Try.ntmps19
  go_wp2_with (refine wpList_buildFlat rfl 22 5 36 _ rfl .u8 opsL Try.underlying22 (by kernel_rfl) (by kernel_rfl) rfl (by decide) (by decide) rfl ?_)
  refine bodyPost_ret (v := .agg #[.int .u8 21, .int .i64 ((b : Int) % 4), .int .i64 0, .int .i64 0]) (by simp [results, Try.results19, go_sem]) rfl ⟨⟨21, ((b : Int) % 4), 0, 0⟩, rfl, ?_, ?_⟩
  · exact ins_ok_21 _ _ _ _ (by omega)
  · exact ins_below _ _ _

set_option maxHeartbeats 1000000 in
theorem ins_op_22 (a b : Nat) (at' n : Int) (w : World) (ha : a < 256) (hb : b < 256) (h1 : 0 ≤ at') (h2 : at' < n) (h3 : n ≤ 60) (j : Nat) (hj : (a : Int) % 36 = (j : Int)) (hlt : j < 36) (hop : opsL[j]? = some 22) :
    Calls Try.prog 19 #[.int .u8 a, .int .u8 b, .int .i64 at', .int .i64 n] w fun e w' => ∃ x : InsD, e = .returned (.agg #[.int .u8 x.op, .int .i64 x.a, .int .i64 x.b, .int .i64 x.c]) ∧ InsOK n x ∧ Below w.heap.size w w' := by
  have hcell := ops_cell j _ hop w
  have hlt' : (j : Int) < 36 := by omega
  clear hop
  go_enter Try.func19, Try.ntmps19
  go_wp2_with (refine wpList_buildFlat rfl 22 5 36 _ rfl .u8 opsL Try.underlying22 (by kernel_rfl) (by kernel_rfl) rfl (by decide) (by decide) rfl ?_)
  refine bodyPost_ret (v := .agg #[.int .u8 22, .int .i64 ((b : Int) % 4), .int .i64 0, .int .i64 ((b : Int) / 4 % 4)]) (by simp [results, Try.results19, go_sem]) rfl ⟨⟨22, ((b : Int) % 4), 0, ((b : Int) / 4 % 4)⟩, rfl, ?_, ?_⟩
  · exact ins_ok_22 _ _ _ _ (by omega)
  · exact ins_below _ _ _

set_option maxHeartbeats 1000000 in
theorem ins_op_23 (a b : Nat) (at' n : Int) (w : World) (ha : a < 256) (hb : b < 256) (h1 : 0 ≤ at') (h2 : at' < n) (h3 : n ≤ 60) (j : Nat) (hj : (a : Int) % 36 = (j : Int)) (hlt : j < 36) (hop : opsL[j]? = some 23) :
    Calls Try.prog 19 #[.int .u8 a, .int .u8 b, .int .i64 at', .int .i64 n] w fun e w' => ∃ x : InsD, e = .returned (.agg #[.int .u8 x.op, .int .i64 x.a, .int .i64 x.b, .int .i64 x.c]) ∧ InsOK n x ∧ Below w.heap.size w w' := by
  have hcell := ops_cell j _ hop w
  have hlt' : (j : Int) < 36 := by omega
  clear hop
  go_enter Try.func19, Try.ntmps19
  go_wp2_with (refine wpList_buildFlat rfl 22 5 36 _ rfl .u8 opsL Try.underlying22 (by kernel_rfl) (by kernel_rfl) rfl (by decide) (by decide) rfl ?_)
  refine bodyPost_ret (v := .agg #[.int .u8 23, .int .i64 0, .int .i64 0, .int .i64 0]) (by simp [results, Try.results19, go_sem]) rfl ⟨⟨23, 0, 0, 0⟩, rfl, ?_, ?_⟩
  · exact ins_ok_23 _ _ _ _ (by omega)
  · exact ins_below _ _ _

set_option maxHeartbeats 1000000 in
theorem ins_op_24 (a b : Nat) (at' n : Int) (w : World) (ha : a < 256) (hb : b < 256) (h1 : 0 ≤ at') (h2 : at' < n) (h3 : n ≤ 60) (j : Nat) (hj : (a : Int) % 36 = (j : Int)) (hlt : j < 36) (hop : opsL[j]? = some 24) :
    Calls Try.prog 19 #[.int .u8 a, .int .u8 b, .int .i64 at', .int .i64 n] w fun e w' => ∃ x : InsD, e = .returned (.agg #[.int .u8 x.op, .int .i64 x.a, .int .i64 x.b, .int .i64 x.c]) ∧ InsOK n x ∧ Below w.heap.size w w' := by
  have hcell := ops_cell j _ hop w
  have hlt' : (j : Int) < 36 := by omega
  clear hop
  go_enter Try.func19, Try.ntmps19
  go_wp2_with (refine wpList_buildFlat rfl 22 5 36 _ rfl .u8 opsL Try.underlying22 (by kernel_rfl) (by kernel_rfl) rfl (by decide) (by decide) rfl ?_)
  refine bodyPost_ret (v := .agg #[.int .u8 24, .int .i64 0, .int .i64 ((b : Int) % 3 - 1), .int .i64 0]) (by simp [results, Try.results19, go_sem]) rfl ⟨⟨24, 0, ((b : Int) % 3 - 1), 0⟩, rfl, ?_, ?_⟩
  · exact ins_ok_24 _ _ _ _ (by omega)
  · exact ins_below _ _ _

set_option maxHeartbeats 1000000 in
theorem ins_op_25 (a b : Nat) (at' n : Int) (w : World) (ha : a < 256) (hb : b < 256) (h1 : 0 ≤ at') (h2 : at' < n) (h3 : n ≤ 60) (j : Nat) (hj : (a : Int) % 36 = (j : Int)) (hlt : j < 36) (hop : opsL[j]? = some 25) :
    Calls Try.prog 19 #[.int .u8 a, .int .u8 b, .int .i64 at', .int .i64 n] w fun e w' => ∃ x : InsD, e = .returned (.agg #[.int .u8 x.op, .int .i64 x.a, .int .i64 x.b, .int .i64 x.c]) ∧ InsOK n x ∧ Below w.heap.size w w' := by
  have hcell := ops_cell j _ hop w
  have hlt' : (j : Int) < 36 := by omega
  clear hop
  go_enter Try.func19, Try.ntmps19
  go_wp2_with (refine wpList_buildFlat rfl 22 5 36 _ rfl .u8 opsL Try.underlying22 (by kernel_rfl) (by kernel_rfl) rfl (by decide) (by decide) rfl ?_)
  refine bodyPost_ret (v := .agg #[.int .u8 25, .int .i64 0, .int .i64 0, .int .i64 0]) (by simp [results, Try.results19, go_sem]) rfl ⟨⟨25, 0, 0, 0⟩, rfl, ?_, ?_⟩
  · exact ins_ok_25 _ _ _ _ (by omega)
  · exact ins_below _ _ _

set_option maxHeartbeats 1000000 in
theorem ins_op_26 (a b : Nat) (at' n : Int) (w : World) (ha : a < 256) (hb : b < 256) (h1 : 0 ≤ at') (h2 : at' < n) (h3 : n ≤ 60) (j : Nat) (hj : (a : Int) % 36 = (j : Int)) (hlt : j < 36) (hop : opsL[j]? = some 26) :
    Calls Try.prog 19 #[.int .u8 a, .int .u8 b, .int .i64 at', .int .i64 n] w fun e w' => ∃ x : InsD, e = .returned (.agg #[.int .u8 x.op, .int .i64 x.a, .int .i64 x.b, .int .i64 x.c]) ∧ InsOK n x ∧ Below w.heap.size w w' := by
  have hcell := ops_cell j _ hop w
  have hlt' : (j : Int) < 36 := by omega
  clear hop
  go_enter Try.func19, Try.ntmps19
  go_wp2_with (refine wpList_buildFlat rfl 22 5 36 _ rfl .u8 opsL Try.underlying22 (by kernel_rfl) (by kernel_rfl) rfl (by decide) (by decide) rfl ?_)
  refine bodyPost_ret (v := .agg #[.int .u8 26, .int .i64 ((b : Int) % 4), .int .i64 0, .int .i64 0]) (by simp [results, Try.results19, go_sem]) rfl ⟨⟨26, ((b : Int) % 4), 0, 0⟩, rfl, ?_, ?_⟩
  · exact ins_ok_26 _ _ _ _ (by omega)
  · exact ins_below _ _ _

set_option maxHeartbeats 1000000 in
theorem ins_op_27 (a b : Nat) (at' n : Int) (w : World) (ha : a < 256) (hb : b < 256) (h1 : 0 ≤ at') (h2 : at' < n) (h3 : n ≤ 60) (j : Nat) (hj : (a : Int) % 36 = (j : Int)) (hlt : j < 36) (hop : opsL[j]? = some 27) :
    Calls Try.prog 19 #[.int .u8 a, .int .u8 b, .int .i64 at', .int .i64 n] w fun e w' => ∃ x : InsD, e = .returned (.agg #[.int .u8 x.op, .int .i64 x.a, .int .i64 x.b, .int .i64 x.c]) ∧ InsOK n x ∧ Below w.heap.size w w' := by
  have hcell := ops_cell j _ hop w
  have hlt' : (j : Int) < 36 := by omega
  clear hop
  go_enter Try.func19, Try.ntmps19
  go_wp2_with (refine wpList_buildFlat rfl 22 5 36 _ rfl .u8 opsL Try.underlying22 (by kernel_rfl) (by kernel_rfl) rfl (by decide) (by decide) rfl ?_)
  refine bodyPost_ret (v := .agg #[.int .u8 27, .int .i64 0, .int .i64 0, .int .i64 0]) (by simp [results, Try.results19, go_sem]) rfl ⟨⟨27, 0, 0, 0⟩, rfl, ?_, ?_⟩
  · exact ins_ok_27 _ _ _ _ (by omega)
  · exact ins_below _ _ _

theorem ins_any (a b : Nat) (at' n : Int) (w : World) (ha : a < 256) (hb : b < 256) (h1 : 0 ≤ at') (h2 : at' < n) (h3 : n ≤ 60) :
    Calls Try.prog 19 #[.int .u8 a, .int .u8 b, .int .i64 at', .int .i64 n] w fun e w' => ∃ x : InsD, e = .returned (.agg #[.int .u8 x.op, .int .i64 x.a, .int .i64 x.b, .int .i64 x.c]) ∧ InsOK n x ∧ Below w.heap.size w w' := by
  have hl : a % 36 < 36 := Nat.mod_lt _ (by decide)
  have hc : (a : Int) % 36 = ((a % 36 : Nat) : Int) := by omega
  generalize a % 36 = j at hl hc
  match j, hl, hc with
  | 0, hl, hc => exact ins_op_7 a b at' n w ha hb h1 h2 h3 0 hc hl rfl
  | 1, hl, hc => exact ins_op_8 a b at' n w ha hb h1 h2 h3 1 hc hl rfl
  | 2, hl, hc => exact ins_op_9 a b at' n w ha hb h1 h2 h3 2 hc hl rfl
  | 3, hl, hc => exact ins_op_1 a b at' n w ha hb h1 h2 h3 3 hc hl rfl
  | 4, hl, hc => exact ins_op_3 a b at' n w ha hb h1 h2 h3 4 hc hl rfl
  | 5, hl, hc => exact ins_op_7 a b at' n w ha hb h1 h2 h3 5 hc hl rfl
  | 6, hl, hc => exact ins_op_8 a b at' n w ha hb h1 h2 h3 6 hc hl rfl
  | 7, hl, hc => exact ins_op_9 a b at' n w ha hb h1 h2 h3 7 hc hl rfl
  | 8, hl, hc => exact ins_op_13 a b at' n w ha hb h1 h2 h3 8 hc hl rfl
  | 9, hl, hc => exact ins_op_14 a b at' n w ha hb h1 h2 h3 9 hc hl rfl
  | 10, hl, hc => exact ins_op_15 a b at' n w ha hb h1 h2 h3 10 hc hl rfl
  | 11, hl, hc => exact ins_op_16 a b at' n w ha hb h1 h2 h3 11 hc hl rfl
  | 12, hl, hc => exact ins_op_17 a b at' n w ha hb h1 h2 h3 12 hc hl rfl
  | 13, hl, hc => exact ins_op_18 a b at' n w ha hb h1 h2 h3 13 hc hl rfl
  | 14, hl, hc => exact ins_op_19 a b at' n w ha hb h1 h2 h3 14 hc hl rfl
  | 15, hl, hc => exact ins_op_20 a b at' n w ha hb h1 h2 h3 15 hc hl rfl
  | 16, hl, hc => exact ins_op_21 a b at' n w ha hb h1 h2 h3 16 hc hl rfl
  | 17, hl, hc => exact ins_op_22 a b at' n w ha hb h1 h2 h3 17 hc hl rfl
  | 18, hl, hc => exact ins_op_23 a b at' n w ha hb h1 h2 h3 18 hc hl rfl
  | 19, hl, hc => exact ins_op_24 a b at' n w ha hb h1 h2 h3 19 hc hl rfl
  | 20, hl, hc => exact ins_op_25 a b at' n w ha hb h1 h2 h3 20 hc hl rfl
  | 21, hl, hc => exact ins_op_26 a b at' n w ha hb h1 h2 h3 21 hc hl rfl
  | 22, hl, hc => exact ins_op_27 a b at' n w ha hb h1 h2 h3 22 hc hl rfl
  | 23, hl, hc => exact ins_op_11 a b at' n w ha hb h1 h2 h3 23 hc hl rfl
  | 24, hl, hc => exact ins_op_10 a b at' n w ha hb h1 h2 h3 24 hc hl rfl
  | 25, hl, hc => exact ins_op_0 a b at' n w ha hb h1 h2 h3 25 hc hl rfl
  | 26, hl, hc => exact ins_op_2 a b at' n w ha hb h1 h2 h3 26 hc hl rfl
  | 27, hl, hc => exact ins_op_4 a b at' n w ha hb h1 h2 h3 27 hc hl rfl
  | 28, hl, hc => exact ins_op_5 a b at' n w ha hb h1 h2 h3 28 hc hl rfl
  | 29, hl, hc => exact ins_op_6 a b at' n w ha hb h1 h2 h3 29 hc hl rfl
  | 30, hl, hc => exact ins_op_7 a b at' n w ha hb h1 h2 h3 30 hc hl rfl
  | 31, hl, hc => exact ins_op_8 a b at' n w ha hb h1 h2 h3 31 hc hl rfl
  | 32, hl, hc => exact ins_op_13 a b at' n w ha hb h1 h2 h3 32 hc hl rfl
  | 33, hl, hc => exact ins_op_14 a b at' n w ha hb h1 h2 h3 33 hc hl rfl
  | 34, hl, hc => exact ins_op_9 a b at' n w ha hb h1 h2 h3 34 hc hl rfl
  | 35, hl, hc => exact ins_op_8 a b at' n w ha hb h1 h2 h3 35 hc hl rfl
  | j + 36, hl, _ => omega

end Go.Proofs.Ytfcfdneganknjaa
