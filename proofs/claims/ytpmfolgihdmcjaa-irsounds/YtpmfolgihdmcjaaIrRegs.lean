/- What numbers, registers, Uses and Sets of package ir return, for every instruction. -/
import Derived.Test.YtpmfolgihdmcjaaIrName
namespace Go.Proofs.Ytpmfolgihdmcjaa
set_option linter.unusedVariables false
set_option linter.unusedSimpArgs false
open Go.RowKit

theorem row_only (w : World) (g : Nat) (x : Int) (h0 : w.cell? ⟨g, 0, none⟩ = some (.int .i64 x)) : RowOf .i64 w (g + 1) (some ⟨g, 0, none⟩) [x] := by
  intro i z hz
  match i, hz with
  | 0, hz => simp at hz; subst hz; exact ⟨g, 0, rfl, by omega, h0⟩

/-- An instruction. -/
structure InsD where
  op : Nat
  a : Int
  b : Int
  c : Int
def InsD.at (x : InsD) (k : Nat) : Int := if k = 0 then x.a else if k = 1 then x.b else x.c
theorem ins_0 (x : InsD) (u : World) : (Instr.index 81 (.agg #[.int .i64 x.a, .int .i64 x.b, .int .i64 x.c]) (.int .i64 0)).run Try.prog u = .ok (.int .i64 x.a) u := by kernel_rfl
theorem ins_1 (x : InsD) (u : World) : (Instr.index 81 (.agg #[.int .i64 x.a, .int .i64 x.b, .int .i64 x.c]) (.int .i64 1)).run Try.prog u = .ok (.int .i64 x.b) u := by kernel_rfl
theorem ins_2 (x : InsD) (u : World) : (Instr.index 81 (.agg #[.int .i64 x.a, .int .i64 x.b, .int .i64 x.c]) (.int .i64 2)).run Try.prog u = .ok (.int .i64 x.c) u := by kernel_rfl
theorem ins_at (x : InsD) (k : Nat) (h : k < 3) (u : World) : (Instr.index 81 (.agg #[.int .i64 x.a, .int .i64 x.b, .int .i64 x.c]) (.int .i64 k)).run Try.prog u = .ok (.int .i64 (x.at k)) u := by
  obtain rfl | rfl | rfl : k = 0 ∨ k = 1 ∨ k = 2 := by omega
  · exact ins_0 x u
  · exact ins_1 x u
  · exact ins_2 x u

set_option maxHeartbeats 1000000 in
theorem numbers_any (op a b c : Int) (w : World) :
    Calls Try.prog 52 #[.agg #[.int .u8 op, .int .i64 a, .int .i64 b, .int .i64 c]] w fun e w' => e = .returned (.agg #[.int .i64 a, .int .i64 b, .int .i64 c]) ∧ Below w.heap.size w w' := by
  go_enter Try.func52, Try.ntmps52
  go_wp2
  refine bodyPost_ret (v := .agg #[.int .i64 a, .int .i64 b, .int .i64 c]) (by simp [results, Try.results52, go_sem]) rfl ⟨rfl, ?_⟩
  exact ((Below.refl _ _).alloc (Nat.le_refl _) _).alloc (by simp) _

theorem cells4 {w : World} {g : Nat} {a b c d : Value} {t : TypeId} {fr : Nat × Nat} (h : w.heap[g]? = some (.cells #[a, b, c, d] t fr)) :
    w.cell? ⟨g, 0, none⟩ = some a ∧ w.cell? ⟨g, 1, none⟩ = some b ∧ w.cell? ⟨g, 2, none⟩ = some c ∧ w.cell? ⟨g, 3, none⟩ = some d :=
  ⟨cell_of_row w g 0 _ _ _ h, cell_of_row w g 1 _ _ _ h, cell_of_row w g 2 _ _ _ h, cell_of_row w g 3 _ _ _ h⟩
theorem abc_cell {w : World} {g : Nat} {r : Row} {t : TypeId} {fr : Nat × Nat} (h : w.heap[g]? = some (.cells #[.int .u8 r.a, .int .u8 r.b, .int .u8 r.c] t fr)) (k : Nat) (hk : k < 3) :
    w.cell? ⟨g, k, none⟩ = some (.int .u8 (r.at k)) := by
  rw [cell_of_row w g k _ _ _ h]
  obtain rfl | rfl | rfl : k = 0 ∨ k = 1 ∨ k = 2 := by omega
  · rfl
  · rfl
  · rfl

/-- The registers among an instruction's first k numbers that the row calls wd, as a set. -/
def regN (r : Row) (x : InsD) (wd : Int) : Nat → Nat
  | 0 => 0
  | k + 1 => if r.at k = wd then putN (regN r x wd k) [x.at k] else regN r x wd k
theorem regN_lt (r : Row) (x : InsD) (wd : Int) : ∀ k, regN r x wd k < U
  | 0 => by show 0 < U; decide
  | k + 1 => by
    unfold regN
    split
    · exact putN_lt _ _ (regN_lt r x wd k)
    · exact regN_lt r x wd k

set_option maxHeartbeats 2000000 in
theorem registers_any (x : InsD) (wd : Int) (w : World) :
    Calls Try.prog 41 #[.agg #[.int .u8 x.op, .int .i64 x.a, .int .i64 x.b, .int .i64 x.c], .int .u8 wd] w fun e w' => e = .returned (.int .u64 (regN (rowAt x.op) x wd 3 : Nat)) ∧ Below w.heap.size w w' := by
  have H := of_row x.op
  generalize rowAt x.op = r at H ⊢
  have H := Lib.hid H
  have hf := field_abc r
  go_enter Try.func41, Try.ntmps41
  go_wp2_with (first
    | (go_at_call 38; refine (H.out _).mono ?_; rintro e w1 ⟨rfl, hB1⟩; obtain ⟨c0, c1, c2, c3⟩ := cells4 (kept_new hB1); have hz : w.heap.size < w1.heap.size := (by have := hB1.size; simp at this; omega))
    | (go_at_call 52; refine (numbers_any _ _ _ _ _).mono ?_; rintro e w2 ⟨rfl, hB2⟩))
  have hR := Lib.hid (kept_new hB2)
  have hB : Below w.heap.size w w2 := (((Below.refl _ _).alloc (Nat.le_refl _) _).trans (hB1.mono (by simp))).alloc (by omega) _ |>.trans (hB2.mono (by simp; omega))
  have hlt1 : w1.heap.size < w2.heap.size := by have := hB2.size; simp at this; omega
  clear hB1 hB2
  go_loopw [5, 15] (fun s i wr => ∃ j : Nat, j ≤ 3 ∧ i = .int .i64 j ∧ s = .int .u64 (regN r x wd j : Nat) ∧ Below w2.heap.size w2 wr) (fun _ i _ => 3 - (intOf i).toNat)
  case atStart => exact ⟨0, Nat.zero_le _, rfl, rfl, Below.refl _ _⟩
  case round =>
    obtain ⟨j, hj, rfl, rfl, hb⟩ := hrel
    have hU := regN_lt r x wd j
    by_cases hlt : j < 3
    · have hi := ins_at x j hlt
      have hq := abc_cell ((hb.block _ hlt1).trans hR.out) j hlt
      by_cases hz : r.at j = wd
      · have hz' : (r.at j == wd) = true := by simp [hz]
        have HN := Lib.hid (show putN (regN r x wd j) [x.at j] = regN r x wd (j + 1) by rw [regN, if_pos hz])
        clear hz
        go_wp2_with (go_at_call 53; refine (with_any _ _ _ [x.at j] _ _ hU (row_only _ _ _ (by simp)) (by simp)).mono ?_; rintro e w4 ⟨rfl, rfl⟩)
        go_roundw
        case rel => exact ⟨j + 1, by omega, by go_num, by rw [← HN.out], below_new hb _⟩
        case measure => simp [intOf]; omega
      · have hz' : (r.at j == wd) = false := by simp [hz]
        have HN := Lib.hid (show regN r x wd j = regN r x wd (j + 1) by rw [regN, if_neg hz])
        clear hz
        go_wp2
        go_roundw
        case rel => exact ⟨j + 1, by omega, by go_num, by rw [← HN.out], hb⟩
        case measure => simp [intOf]; omega
    · obtain rfl : j = 3 := by omega
      go_wp2
      go_ret
      exact ⟨rfl, below_next hB hb⟩

set_option maxHeartbeats 1000000 in
theorem uses_any (x : InsD) (w : World) :
    Calls Try.prog 23 #[.agg #[.int .u8 x.op, .int .i64 x.a, .int .i64 x.b, .int .i64 x.c]] w fun e w' => e = .returned (.int .u64 (regN (rowAt x.op) x 2 3 : Nat)) ∧ Below w.heap.size w w' := by
  have H := Lib.hid (registers_any x 2)
  go_enter Try.func23, Try.ntmps23
  go_wp2_with (go_at_call 41; refine (H.out _).mono ?_; rintro e w1 ⟨rfl, hB1⟩)
  go_ret
  exact ⟨rfl, ((Below.refl _ _).alloc (Nat.le_refl _) _).trans (hB1.mono (by simp))⟩

set_option maxHeartbeats 1000000 in
theorem sets_any (x : InsD) (w : World) :
    Calls Try.prog 25 #[.agg #[.int .u8 x.op, .int .i64 x.a, .int .i64 x.b, .int .i64 x.c]] w fun e w' => e = .returned (.int .u64 (regN (rowAt x.op) x 1 3 : Nat)) ∧ Below w.heap.size w w' := by
  have H := Lib.hid (registers_any x 1)
  go_enter Try.func25, Try.ntmps25
  go_wp2_with (go_at_call 41; refine (H.out _).mono ?_; rintro e w1 ⟨rfl, hB1⟩)
  go_ret
  exact ⟨rfl, ((Below.refl _ _).alloc (Nat.le_refl _) _).trans (hB1.mono (by simp))⟩

end Go.Proofs.Ytpmfolgihdmcjaa
