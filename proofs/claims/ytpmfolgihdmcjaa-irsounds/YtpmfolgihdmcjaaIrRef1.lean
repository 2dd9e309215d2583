/- What the document's own answers of layer 2 return (row, Plain, Acquire, Release, numbers, Names, Find, Name, Uses, Sets), in the table's words, for every input. -/
import Derived.Test.YtpmfolgihdmcjaaIrKnown
namespace Go.Proofs.Ytpmfolgihdmcjaa
set_option linter.unusedVariables false
set_option linter.unusedSimpArgs false
open Go.RowKit

/-- The document's number of a word. -/
def tr (x : Int) : Int := if x = 1 then 2 else if x = 2 then 3 else if x = 3 then 1 else if x = 4 then 5 else if x = 5 then 6 else if x = 6 then 4 else if x = 7 then 8 else if x = 8 then 7 else x

theorem refRow_0 (w : World) : Calls Try.prog 39 #[.int .u8 0] w fun e w' => e = .returned (.slice (some ⟨w.heap.size, 0, none⟩) 3 3) ∧ w' = w.alloc (.cells #[.int .i64 (tr (rowAt 0).a), .int .i64 (tr (rowAt 0).b), .int .i64 (tr (rowAt 0).c)] 3) := by
  go_enter Try.func39, Try.ntmps39
  go_wp2
  go_ret
  exact ⟨rfl, rfl⟩
theorem refRow_1 (w : World) : Calls Try.prog 39 #[.int .u8 1] w fun e w' => e = .returned (.slice (some ⟨w.heap.size, 0, none⟩) 3 3) ∧ w' = w.alloc (.cells #[.int .i64 (tr (rowAt 1).a), .int .i64 (tr (rowAt 1).b), .int .i64 (tr (rowAt 1).c)] 3) := by
  go_enter Try.func39, Try.ntmps39
  go_wp2
  go_ret
  exact ⟨rfl, rfl⟩
theorem refRow_2 (w : World) : Calls Try.prog 39 #[.int .u8 2] w fun e w' => e = .returned (.slice (some ⟨w.heap.size, 0, none⟩) 3 3) ∧ w' = w.alloc (.cells #[.int .i64 (tr (rowAt 2).a), .int .i64 (tr (rowAt 2).b), .int .i64 (tr (rowAt 2).c)] 3) := by
  go_enter Try.func39, Try.ntmps39
  go_wp2
  go_ret
  exact ⟨rfl, rfl⟩
theorem refRow_3 (w : World) : Calls Try.prog 39 #[.int .u8 3] w fun e w' => e = .returned (.slice (some ⟨w.heap.size, 0, none⟩) 3 3) ∧ w' = w.alloc (.cells #[.int .i64 (tr (rowAt 3).a), .int .i64 (tr (rowAt 3).b), .int .i64 (tr (rowAt 3).c)] 3) := by
  go_enter Try.func39, Try.ntmps39
  go_wp2
  go_ret
  exact ⟨rfl, rfl⟩
theorem refRow_4 (w : World) : Calls Try.prog 39 #[.int .u8 4] w fun e w' => e = .returned (.slice (some ⟨w.heap.size, 0, none⟩) 3 3) ∧ w' = w.alloc (.cells #[.int .i64 (tr (rowAt 4).a), .int .i64 (tr (rowAt 4).b), .int .i64 (tr (rowAt 4).c)] 3) := by
  go_enter Try.func39, Try.ntmps39
  go_wp2
  go_ret
  exact ⟨rfl, rfl⟩
theorem refRow_5 (w : World) : Calls Try.prog 39 #[.int .u8 5] w fun e w' => e = .returned (.slice (some ⟨w.heap.size, 0, none⟩) 3 3) ∧ w' = w.alloc (.cells #[.int .i64 (tr (rowAt 5).a), .int .i64 (tr (rowAt 5).b), .int .i64 (tr (rowAt 5).c)] 3) := by
  go_enter Try.func39, Try.ntmps39
  go_wp2
  go_ret
  exact ⟨rfl, rfl⟩
theorem refRow_6 (w : World) : Calls Try.prog 39 #[.int .u8 6] w fun e w' => e = .returned (.slice (some ⟨w.heap.size, 0, none⟩) 3 3) ∧ w' = w.alloc (.cells #[.int .i64 (tr (rowAt 6).a), .int .i64 (tr (rowAt 6).b), .int .i64 (tr (rowAt 6).c)] 3) := by
  go_enter Try.func39, Try.ntmps39
  go_wp2
  go_ret
  exact ⟨rfl, rfl⟩
theorem refRow_7 (w : World) : Calls Try.prog 39 #[.int .u8 7] w fun e w' => e = .returned (.slice (some ⟨w.heap.size, 0, none⟩) 3 3) ∧ w' = w.alloc (.cells #[.int .i64 (tr (rowAt 7).a), .int .i64 (tr (rowAt 7).b), .int .i64 (tr (rowAt 7).c)] 3) := by
  go_enter Try.func39, Try.ntmps39
  go_wp2
  go_ret
  exact ⟨rfl, rfl⟩
theorem refRow_8 (w : World) : Calls Try.prog 39 #[.int .u8 8] w fun e w' => e = .returned (.slice (some ⟨w.heap.size, 0, none⟩) 3 3) ∧ w' = w.alloc (.cells #[.int .i64 (tr (rowAt 8).a), .int .i64 (tr (rowAt 8).b), .int .i64 (tr (rowAt 8).c)] 3) := by
  go_enter Try.func39, Try.ntmps39
  go_wp2
  go_ret
  exact ⟨rfl, rfl⟩
theorem refRow_9 (w : World) : Calls Try.prog 39 #[.int .u8 9] w fun e w' => e = .returned (.slice (some ⟨w.heap.size, 0, none⟩) 3 3) ∧ w' = w.alloc (.cells #[.int .i64 (tr (rowAt 9).a), .int .i64 (tr (rowAt 9).b), .int .i64 (tr (rowAt 9).c)] 3) := by
  go_enter Try.func39, Try.ntmps39
  go_wp2
  go_ret
  exact ⟨rfl, rfl⟩
theorem refRow_10 (w : World) : Calls Try.prog 39 #[.int .u8 10] w fun e w' => e = .returned (.slice (some ⟨w.heap.size, 0, none⟩) 3 3) ∧ w' = w.alloc (.cells #[.int .i64 (tr (rowAt 10).a), .int .i64 (tr (rowAt 10).b), .int .i64 (tr (rowAt 10).c)] 3) := by
  go_enter Try.func39, Try.ntmps39
  go_wp2
  go_ret
  exact ⟨rfl, rfl⟩
theorem refRow_11 (w : World) : Calls Try.prog 39 #[.int .u8 11] w fun e w' => e = .returned (.slice (some ⟨w.heap.size, 0, none⟩) 3 3) ∧ w' = w.alloc (.cells #[.int .i64 (tr (rowAt 11).a), .int .i64 (tr (rowAt 11).b), .int .i64 (tr (rowAt 11).c)] 3) := by
  go_enter Try.func39, Try.ntmps39
  go_wp2
  go_ret
  exact ⟨rfl, rfl⟩
theorem refRow_12 (w : World) : Calls Try.prog 39 #[.int .u8 12] w fun e w' => e = .returned (.slice (some ⟨w.heap.size, 0, none⟩) 3 3) ∧ w' = w.alloc (.cells #[.int .i64 (tr (rowAt 12).a), .int .i64 (tr (rowAt 12).b), .int .i64 (tr (rowAt 12).c)] 3) := by
  go_enter Try.func39, Try.ntmps39
  go_wp2
  go_ret
  exact ⟨rfl, rfl⟩
theorem refRow_13 (w : World) : Calls Try.prog 39 #[.int .u8 13] w fun e w' => e = .returned (.slice (some ⟨w.heap.size, 0, none⟩) 3 3) ∧ w' = w.alloc (.cells #[.int .i64 (tr (rowAt 13).a), .int .i64 (tr (rowAt 13).b), .int .i64 (tr (rowAt 13).c)] 3) := by
  go_enter Try.func39, Try.ntmps39
  go_wp2
  go_ret
  exact ⟨rfl, rfl⟩
theorem refRow_14 (w : World) : Calls Try.prog 39 #[.int .u8 14] w fun e w' => e = .returned (.slice (some ⟨w.heap.size, 0, none⟩) 3 3) ∧ w' = w.alloc (.cells #[.int .i64 (tr (rowAt 14).a), .int .i64 (tr (rowAt 14).b), .int .i64 (tr (rowAt 14).c)] 3) := by
  go_enter Try.func39, Try.ntmps39
  go_wp2
  go_ret
  exact ⟨rfl, rfl⟩
theorem refRow_15 (w : World) : Calls Try.prog 39 #[.int .u8 15] w fun e w' => e = .returned (.slice (some ⟨w.heap.size, 0, none⟩) 3 3) ∧ w' = w.alloc (.cells #[.int .i64 (tr (rowAt 15).a), .int .i64 (tr (rowAt 15).b), .int .i64 (tr (rowAt 15).c)] 3) := by
  go_enter Try.func39, Try.ntmps39
  go_wp2
  go_ret
  exact ⟨rfl, rfl⟩
theorem refRow_16 (w : World) : Calls Try.prog 39 #[.int .u8 16] w fun e w' => e = .returned (.slice (some ⟨w.heap.size, 0, none⟩) 3 3) ∧ w' = w.alloc (.cells #[.int .i64 (tr (rowAt 16).a), .int .i64 (tr (rowAt 16).b), .int .i64 (tr (rowAt 16).c)] 3) := by
  go_enter Try.func39, Try.ntmps39
  go_wp2
  go_ret
  exact ⟨rfl, rfl⟩
theorem refRow_17 (w : World) : Calls Try.prog 39 #[.int .u8 17] w fun e w' => e = .returned (.slice (some ⟨w.heap.size, 0, none⟩) 3 3) ∧ w' = w.alloc (.cells #[.int .i64 (tr (rowAt 17).a), .int .i64 (tr (rowAt 17).b), .int .i64 (tr (rowAt 17).c)] 3) := by
  go_enter Try.func39, Try.ntmps39
  go_wp2
  go_ret
  exact ⟨rfl, rfl⟩
theorem refRow_18 (w : World) : Calls Try.prog 39 #[.int .u8 18] w fun e w' => e = .returned (.slice (some ⟨w.heap.size, 0, none⟩) 3 3) ∧ w' = w.alloc (.cells #[.int .i64 (tr (rowAt 18).a), .int .i64 (tr (rowAt 18).b), .int .i64 (tr (rowAt 18).c)] 3) := by
  go_enter Try.func39, Try.ntmps39
  go_wp2
  go_ret
  exact ⟨rfl, rfl⟩
theorem refRow_19 (w : World) : Calls Try.prog 39 #[.int .u8 19] w fun e w' => e = .returned (.slice (some ⟨w.heap.size, 0, none⟩) 3 3) ∧ w' = w.alloc (.cells #[.int .i64 (tr (rowAt 19).a), .int .i64 (tr (rowAt 19).b), .int .i64 (tr (rowAt 19).c)] 3) := by
  go_enter Try.func39, Try.ntmps39
  go_wp2
  go_ret
  exact ⟨rfl, rfl⟩
theorem refRow_20 (w : World) : Calls Try.prog 39 #[.int .u8 20] w fun e w' => e = .returned (.slice (some ⟨w.heap.size, 0, none⟩) 3 3) ∧ w' = w.alloc (.cells #[.int .i64 (tr (rowAt 20).a), .int .i64 (tr (rowAt 20).b), .int .i64 (tr (rowAt 20).c)] 3) := by
  go_enter Try.func39, Try.ntmps39
  go_wp2
  go_ret
  exact ⟨rfl, rfl⟩
theorem refRow_21 (w : World) : Calls Try.prog 39 #[.int .u8 21] w fun e w' => e = .returned (.slice (some ⟨w.heap.size, 0, none⟩) 3 3) ∧ w' = w.alloc (.cells #[.int .i64 (tr (rowAt 21).a), .int .i64 (tr (rowAt 21).b), .int .i64 (tr (rowAt 21).c)] 3) := by
  go_enter Try.func39, Try.ntmps39
  go_wp2
  go_ret
  exact ⟨rfl, rfl⟩
theorem refRow_22 (w : World) : Calls Try.prog 39 #[.int .u8 22] w fun e w' => e = .returned (.slice (some ⟨w.heap.size, 0, none⟩) 3 3) ∧ w' = w.alloc (.cells #[.int .i64 (tr (rowAt 22).a), .int .i64 (tr (rowAt 22).b), .int .i64 (tr (rowAt 22).c)] 3) := by
  go_enter Try.func39, Try.ntmps39
  go_wp2
  go_ret
  exact ⟨rfl, rfl⟩
theorem refRow_23 (w : World) : Calls Try.prog 39 #[.int .u8 23] w fun e w' => e = .returned (.slice (some ⟨w.heap.size, 0, none⟩) 3 3) ∧ w' = w.alloc (.cells #[.int .i64 (tr (rowAt 23).a), .int .i64 (tr (rowAt 23).b), .int .i64 (tr (rowAt 23).c)] 3) := by
  go_enter Try.func39, Try.ntmps39
  go_wp2
  go_ret
  exact ⟨rfl, rfl⟩
theorem refRow_24 (w : World) : Calls Try.prog 39 #[.int .u8 24] w fun e w' => e = .returned (.slice (some ⟨w.heap.size, 0, none⟩) 3 3) ∧ w' = w.alloc (.cells #[.int .i64 (tr (rowAt 24).a), .int .i64 (tr (rowAt 24).b), .int .i64 (tr (rowAt 24).c)] 3) := by
  go_enter Try.func39, Try.ntmps39
  go_wp2
  go_ret
  exact ⟨rfl, rfl⟩
theorem refRow_25 (w : World) : Calls Try.prog 39 #[.int .u8 25] w fun e w' => e = .returned (.slice (some ⟨w.heap.size, 0, none⟩) 3 3) ∧ w' = w.alloc (.cells #[.int .i64 (tr (rowAt 25).a), .int .i64 (tr (rowAt 25).b), .int .i64 (tr (rowAt 25).c)] 3) := by
  go_enter Try.func39, Try.ntmps39
  go_wp2
  go_ret
  exact ⟨rfl, rfl⟩
theorem refRow_26 (w : World) : Calls Try.prog 39 #[.int .u8 26] w fun e w' => e = .returned (.slice (some ⟨w.heap.size, 0, none⟩) 3 3) ∧ w' = w.alloc (.cells #[.int .i64 (tr (rowAt 26).a), .int .i64 (tr (rowAt 26).b), .int .i64 (tr (rowAt 26).c)] 3) := by
  go_enter Try.func39, Try.ntmps39
  go_wp2
  go_ret
  exact ⟨rfl, rfl⟩
theorem refRow_27 (w : World) : Calls Try.prog 39 #[.int .u8 27] w fun e w' => e = .returned (.slice (some ⟨w.heap.size, 0, none⟩) 3 3) ∧ w' = w.alloc (.cells #[.int .i64 (tr (rowAt 27).a), .int .i64 (tr (rowAt 27).b), .int .i64 (tr (rowAt 27).c)] 3) := by
  go_enter Try.func39, Try.ntmps39
  go_wp2
  go_ret
  exact ⟨rfl, rfl⟩
theorem refRow_out (k : Nat) (w : World) (h : 28 ≤ k) : Calls Try.prog 39 #[.int .u8 k] w fun e w' => e = .returned (.slice (some ⟨w.heap.size, 0, none⟩) 3 3) ∧ w' = w.alloc (.cells #[.int .i64 (tr (rowAt k).a), .int .i64 (tr (rowAt k).b), .int .i64 (tr (rowAt k).c)] 3) := by
  rw [rowAt_out k h]
  have e1 : ((k : Int) == 1) = false := by simp; omega
  have e2 : ((k : Int) == 2) = false := by simp; omega
  have e3 : ((k : Int) == 3) = false := by simp; omega
  have e4 : ((k : Int) == 4) = false := by simp; omega
  have e5 : ((k : Int) == 5) = false := by simp; omega
  have e6 : ((k : Int) == 6) = false := by simp; omega
  have e7 : ((k : Int) == 7) = false := by simp; omega
  have e8 : ((k : Int) == 8) = false := by simp; omega
  have e9 : ((k : Int) == 9) = false := by simp; omega
  have e10 : ((k : Int) == 10) = false := by simp; omega
  have e11 : ((k : Int) == 11) = false := by simp; omega
  have e12 : ((k : Int) == 12) = false := by simp; omega
  have e13 : ((k : Int) == 13) = false := by simp; omega
  have e14 : ((k : Int) == 14) = false := by simp; omega
  have e15 : ((k : Int) == 15) = false := by simp; omega
  have e16 : ((k : Int) == 16) = false := by simp; omega
  have e17 : ((k : Int) == 17) = false := by simp; omega
  have e18 : ((k : Int) == 18) = false := by simp; omega
  have e19 : ((k : Int) == 19) = false := by simp; omega
  have e20 : ((k : Int) == 20) = false := by simp; omega
  have e21 : ((k : Int) == 21) = false := by simp; omega
  have e22 : ((k : Int) == 22) = false := by simp; omega
  have e23 : ((k : Int) == 23) = false := by simp; omega
  have e24 : ((k : Int) == 24) = false := by simp; omega
  have e25 : ((k : Int) == 25) = false := by simp; omega
  have e26 : ((k : Int) == 26) = false := by simp; omega
  have e27 : ((k : Int) == 27) = false := by simp; omega
  go_enter Try.func39, Try.ntmps39
  go_wp2
  go_ret
  exact ⟨rfl, rfl⟩
theorem refRow_any (k : Nat) (w : World) : Calls Try.prog 39 #[.int .u8 k] w fun e w' => e = .returned (.slice (some ⟨w.heap.size, 0, none⟩) 3 3) ∧ w' = w.alloc (.cells #[.int .i64 (tr (rowAt k).a), .int .i64 (tr (rowAt k).b), .int .i64 (tr (rowAt k).c)] 3) := by
  match k with
  | 0 => exact refRow_0 w
  | 1 => exact refRow_1 w
  | 2 => exact refRow_2 w
  | 3 => exact refRow_3 w
  | 4 => exact refRow_4 w
  | 5 => exact refRow_5 w
  | 6 => exact refRow_6 w
  | 7 => exact refRow_7 w
  | 8 => exact refRow_8 w
  | 9 => exact refRow_9 w
  | 10 => exact refRow_10 w
  | 11 => exact refRow_11 w
  | 12 => exact refRow_12 w
  | 13 => exact refRow_13 w
  | 14 => exact refRow_14 w
  | 15 => exact refRow_15 w
  | 16 => exact refRow_16 w
  | 17 => exact refRow_17 w
  | 18 => exact refRow_18 w
  | 19 => exact refRow_19 w
  | 20 => exact refRow_20 w
  | 21 => exact refRow_21 w
  | 22 => exact refRow_22 w
  | 23 => exact refRow_23 w
  | 24 => exact refRow_24 w
  | 25 => exact refRow_25 w
  | 26 => exact refRow_26 w
  | 27 => exact refRow_27 w
  | k + 28 => exact refRow_out (k + 28) w (by omega)

set_option maxHeartbeats 400000 in
theorem refPlain_any (k : Nat) (w : World) : Calls Try.prog 16 #[.int .u8 k] w fun e w' => e = .returned (.bool (rowAt k).plain) ∧ w = w' := by
  have H := Lib.hid (show decide ((k : Int) ≤ 8) = (rowAt k).plain by
    rcases Nat.lt_or_ge k 28 with h | h
    · have : (List.range 28).all (fun k => decide ((k : Int) ≤ 8) == (rowAt k).plain) = true := by decide
      simpa using List.all_eq_true.1 this k (by simpa using h)
    · rw [rowAt_out k h]; simp [noRow]; omega)
  go_enter Try.func16, Try.ntmps16
  go_wp2
  go_ret
  exact ⟨ret_bool H.out, rfl⟩

theorem refAcquire_0 (w : World) : Calls Try.prog 18 #[.int .u8 0] w fun e w' => e = .returned (.bool (rowAt 0).acq) ∧ w = w' := by
  go_enter Try.func18, Try.ntmps18
  go_wp2
  go_ret
  exact ⟨rfl, rfl⟩
theorem refAcquire_1 (w : World) : Calls Try.prog 18 #[.int .u8 1] w fun e w' => e = .returned (.bool (rowAt 1).acq) ∧ w = w' := by
  go_enter Try.func18, Try.ntmps18
  go_wp2
  go_ret
  exact ⟨rfl, rfl⟩
theorem refAcquire_2 (w : World) : Calls Try.prog 18 #[.int .u8 2] w fun e w' => e = .returned (.bool (rowAt 2).acq) ∧ w = w' := by
  go_enter Try.func18, Try.ntmps18
  go_wp2
  go_ret
  exact ⟨rfl, rfl⟩
theorem refAcquire_3 (w : World) : Calls Try.prog 18 #[.int .u8 3] w fun e w' => e = .returned (.bool (rowAt 3).acq) ∧ w = w' := by
  go_enter Try.func18, Try.ntmps18
  go_wp2
  go_ret
  exact ⟨rfl, rfl⟩
theorem refAcquire_4 (w : World) : Calls Try.prog 18 #[.int .u8 4] w fun e w' => e = .returned (.bool (rowAt 4).acq) ∧ w = w' := by
  go_enter Try.func18, Try.ntmps18
  go_wp2
  go_ret
  exact ⟨rfl, rfl⟩
theorem refAcquire_5 (w : World) : Calls Try.prog 18 #[.int .u8 5] w fun e w' => e = .returned (.bool (rowAt 5).acq) ∧ w = w' := by
  go_enter Try.func18, Try.ntmps18
  go_wp2
  go_ret
  exact ⟨rfl, rfl⟩
theorem refAcquire_6 (w : World) : Calls Try.prog 18 #[.int .u8 6] w fun e w' => e = .returned (.bool (rowAt 6).acq) ∧ w = w' := by
  go_enter Try.func18, Try.ntmps18
  go_wp2
  go_ret
  exact ⟨rfl, rfl⟩
theorem refAcquire_7 (w : World) : Calls Try.prog 18 #[.int .u8 7] w fun e w' => e = .returned (.bool (rowAt 7).acq) ∧ w = w' := by
  go_enter Try.func18, Try.ntmps18
  go_wp2
  go_ret
  exact ⟨rfl, rfl⟩
theorem refAcquire_8 (w : World) : Calls Try.prog 18 #[.int .u8 8] w fun e w' => e = .returned (.bool (rowAt 8).acq) ∧ w = w' := by
  go_enter Try.func18, Try.ntmps18
  go_wp2
  go_ret
  exact ⟨rfl, rfl⟩
theorem refAcquire_9 (w : World) : Calls Try.prog 18 #[.int .u8 9] w fun e w' => e = .returned (.bool (rowAt 9).acq) ∧ w = w' := by
  go_enter Try.func18, Try.ntmps18
  go_wp2
  go_ret
  exact ⟨rfl, rfl⟩
theorem refAcquire_10 (w : World) : Calls Try.prog 18 #[.int .u8 10] w fun e w' => e = .returned (.bool (rowAt 10).acq) ∧ w = w' := by
  go_enter Try.func18, Try.ntmps18
  go_wp2
  go_ret
  exact ⟨rfl, rfl⟩
theorem refAcquire_11 (w : World) : Calls Try.prog 18 #[.int .u8 11] w fun e w' => e = .returned (.bool (rowAt 11).acq) ∧ w = w' := by
  go_enter Try.func18, Try.ntmps18
  go_wp2
  go_ret
  exact ⟨rfl, rfl⟩
theorem refAcquire_12 (w : World) : Calls Try.prog 18 #[.int .u8 12] w fun e w' => e = .returned (.bool (rowAt 12).acq) ∧ w = w' := by
  go_enter Try.func18, Try.ntmps18
  go_wp2
  go_ret
  exact ⟨rfl, rfl⟩
theorem refAcquire_13 (w : World) : Calls Try.prog 18 #[.int .u8 13] w fun e w' => e = .returned (.bool (rowAt 13).acq) ∧ w = w' := by
  go_enter Try.func18, Try.ntmps18
  go_wp2
  go_ret
  exact ⟨rfl, rfl⟩
theorem refAcquire_14 (w : World) : Calls Try.prog 18 #[.int .u8 14] w fun e w' => e = .returned (.bool (rowAt 14).acq) ∧ w = w' := by
  go_enter Try.func18, Try.ntmps18
  go_wp2
  go_ret
  exact ⟨rfl, rfl⟩
theorem refAcquire_15 (w : World) : Calls Try.prog 18 #[.int .u8 15] w fun e w' => e = .returned (.bool (rowAt 15).acq) ∧ w = w' := by
  go_enter Try.func18, Try.ntmps18
  go_wp2
  go_ret
  exact ⟨rfl, rfl⟩
theorem refAcquire_16 (w : World) : Calls Try.prog 18 #[.int .u8 16] w fun e w' => e = .returned (.bool (rowAt 16).acq) ∧ w = w' := by
  go_enter Try.func18, Try.ntmps18
  go_wp2
  go_ret
  exact ⟨rfl, rfl⟩
theorem refAcquire_17 (w : World) : Calls Try.prog 18 #[.int .u8 17] w fun e w' => e = .returned (.bool (rowAt 17).acq) ∧ w = w' := by
  go_enter Try.func18, Try.ntmps18
  go_wp2
  go_ret
  exact ⟨rfl, rfl⟩
theorem refAcquire_18 (w : World) : Calls Try.prog 18 #[.int .u8 18] w fun e w' => e = .returned (.bool (rowAt 18).acq) ∧ w = w' := by
  go_enter Try.func18, Try.ntmps18
  go_wp2
  go_ret
  exact ⟨rfl, rfl⟩
theorem refAcquire_19 (w : World) : Calls Try.prog 18 #[.int .u8 19] w fun e w' => e = .returned (.bool (rowAt 19).acq) ∧ w = w' := by
  go_enter Try.func18, Try.ntmps18
  go_wp2
  go_ret
  exact ⟨rfl, rfl⟩
theorem refAcquire_20 (w : World) : Calls Try.prog 18 #[.int .u8 20] w fun e w' => e = .returned (.bool (rowAt 20).acq) ∧ w = w' := by
  go_enter Try.func18, Try.ntmps18
  go_wp2
  go_ret
  exact ⟨rfl, rfl⟩
theorem refAcquire_21 (w : World) : Calls Try.prog 18 #[.int .u8 21] w fun e w' => e = .returned (.bool (rowAt 21).acq) ∧ w = w' := by
  go_enter Try.func18, Try.ntmps18
  go_wp2
  go_ret
  exact ⟨rfl, rfl⟩
theorem refAcquire_22 (w : World) : Calls Try.prog 18 #[.int .u8 22] w fun e w' => e = .returned (.bool (rowAt 22).acq) ∧ w = w' := by
  go_enter Try.func18, Try.ntmps18
  go_wp2
  go_ret
  exact ⟨rfl, rfl⟩
theorem refAcquire_23 (w : World) : Calls Try.prog 18 #[.int .u8 23] w fun e w' => e = .returned (.bool (rowAt 23).acq) ∧ w = w' := by
  go_enter Try.func18, Try.ntmps18
  go_wp2
  go_ret
  exact ⟨rfl, rfl⟩
theorem refAcquire_24 (w : World) : Calls Try.prog 18 #[.int .u8 24] w fun e w' => e = .returned (.bool (rowAt 24).acq) ∧ w = w' := by
  go_enter Try.func18, Try.ntmps18
  go_wp2
  go_ret
  exact ⟨rfl, rfl⟩
theorem refAcquire_25 (w : World) : Calls Try.prog 18 #[.int .u8 25] w fun e w' => e = .returned (.bool (rowAt 25).acq) ∧ w = w' := by
  go_enter Try.func18, Try.ntmps18
  go_wp2
  go_ret
  exact ⟨rfl, rfl⟩
theorem refAcquire_26 (w : World) : Calls Try.prog 18 #[.int .u8 26] w fun e w' => e = .returned (.bool (rowAt 26).acq) ∧ w = w' := by
  go_enter Try.func18, Try.ntmps18
  go_wp2
  go_ret
  exact ⟨rfl, rfl⟩
theorem refAcquire_27 (w : World) : Calls Try.prog 18 #[.int .u8 27] w fun e w' => e = .returned (.bool (rowAt 27).acq) ∧ w = w' := by
  go_enter Try.func18, Try.ntmps18
  go_wp2
  go_ret
  exact ⟨rfl, rfl⟩
theorem refAcquire_out (k : Nat) (w : World) (h : 28 ≤ k) : Calls Try.prog 18 #[.int .u8 k] w fun e w' => e = .returned (.bool (rowAt k).acq) ∧ w = w' := by
  rw [rowAt_out k h]
  have e13 : ((k : Int) == 13) = false := by simp; omega
  have e15 : ((k : Int) == 15) = false := by simp; omega
  have e17 : ((k : Int) == 17) = false := by simp; omega
  have e25 : ((k : Int) == 25) = false := by simp; omega
  have e26 : ((k : Int) == 26) = false := by simp; omega
  have l1 : decide (19 ≤ (k : Int)) = true := by simp; omega
  have l2 : decide ((k : Int) ≤ 22) = false := by simp; omega
  go_enter Try.func18, Try.ntmps18
  go_wp2
  go_ret
  exact ⟨rfl, rfl⟩
theorem refAcquire_any (k : Nat) (w : World) : Calls Try.prog 18 #[.int .u8 k] w fun e w' => e = .returned (.bool (rowAt k).acq) ∧ w = w' := by
  match k with
  | 0 => exact refAcquire_0 w
  | 1 => exact refAcquire_1 w
  | 2 => exact refAcquire_2 w
  | 3 => exact refAcquire_3 w
  | 4 => exact refAcquire_4 w
  | 5 => exact refAcquire_5 w
  | 6 => exact refAcquire_6 w
  | 7 => exact refAcquire_7 w
  | 8 => exact refAcquire_8 w
  | 9 => exact refAcquire_9 w
  | 10 => exact refAcquire_10 w
  | 11 => exact refAcquire_11 w
  | 12 => exact refAcquire_12 w
  | 13 => exact refAcquire_13 w
  | 14 => exact refAcquire_14 w
  | 15 => exact refAcquire_15 w
  | 16 => exact refAcquire_16 w
  | 17 => exact refAcquire_17 w
  | 18 => exact refAcquire_18 w
  | 19 => exact refAcquire_19 w
  | 20 => exact refAcquire_20 w
  | 21 => exact refAcquire_21 w
  | 22 => exact refAcquire_22 w
  | 23 => exact refAcquire_23 w
  | 24 => exact refAcquire_24 w
  | 25 => exact refAcquire_25 w
  | 26 => exact refAcquire_26 w
  | 27 => exact refAcquire_27 w
  | k + 28 => exact refAcquire_out (k + 28) w (by omega)

theorem refRelease_0 (w : World) : Calls Try.prog 20 #[.int .u8 0] w fun e w' => e = .returned (.bool (rowAt 0).rel) ∧ w = w' := by
  go_enter Try.func20, Try.ntmps20
  go_wp2
  go_ret
  exact ⟨rfl, rfl⟩
theorem refRelease_1 (w : World) : Calls Try.prog 20 #[.int .u8 1] w fun e w' => e = .returned (.bool (rowAt 1).rel) ∧ w = w' := by
  go_enter Try.func20, Try.ntmps20
  go_wp2
  go_ret
  exact ⟨rfl, rfl⟩
theorem refRelease_2 (w : World) : Calls Try.prog 20 #[.int .u8 2] w fun e w' => e = .returned (.bool (rowAt 2).rel) ∧ w = w' := by
  go_enter Try.func20, Try.ntmps20
  go_wp2
  go_ret
  exact ⟨rfl, rfl⟩
theorem refRelease_3 (w : World) : Calls Try.prog 20 #[.int .u8 3] w fun e w' => e = .returned (.bool (rowAt 3).rel) ∧ w = w' := by
  go_enter Try.func20, Try.ntmps20
  go_wp2
  go_ret
  exact ⟨rfl, rfl⟩
theorem refRelease_4 (w : World) : Calls Try.prog 20 #[.int .u8 4] w fun e w' => e = .returned (.bool (rowAt 4).rel) ∧ w = w' := by
  go_enter Try.func20, Try.ntmps20
  go_wp2
  go_ret
  exact ⟨rfl, rfl⟩
theorem refRelease_5 (w : World) : Calls Try.prog 20 #[.int .u8 5] w fun e w' => e = .returned (.bool (rowAt 5).rel) ∧ w = w' := by
  go_enter Try.func20, Try.ntmps20
  go_wp2
  go_ret
  exact ⟨rfl, rfl⟩
theorem refRelease_6 (w : World) : Calls Try.prog 20 #[.int .u8 6] w fun e w' => e = .returned (.bool (rowAt 6).rel) ∧ w = w' := by
  go_enter Try.func20, Try.ntmps20
  go_wp2
  go_ret
  exact ⟨rfl, rfl⟩
theorem refRelease_7 (w : World) : Calls Try.prog 20 #[.int .u8 7] w fun e w' => e = .returned (.bool (rowAt 7).rel) ∧ w = w' := by
  go_enter Try.func20, Try.ntmps20
  go_wp2
  go_ret
  exact ⟨rfl, rfl⟩
theorem refRelease_8 (w : World) : Calls Try.prog 20 #[.int .u8 8] w fun e w' => e = .returned (.bool (rowAt 8).rel) ∧ w = w' := by
  go_enter Try.func20, Try.ntmps20
  go_wp2
  go_ret
  exact ⟨rfl, rfl⟩
theorem refRelease_9 (w : World) : Calls Try.prog 20 #[.int .u8 9] w fun e w' => e = .returned (.bool (rowAt 9).rel) ∧ w = w' := by
  go_enter Try.func20, Try.ntmps20
  go_wp2
  go_ret
  exact ⟨rfl, rfl⟩
theorem refRelease_10 (w : World) : Calls Try.prog 20 #[.int .u8 10] w fun e w' => e = .returned (.bool (rowAt 10).rel) ∧ w = w' := by
  go_enter Try.func20, Try.ntmps20
  go_wp2
  go_ret
  exact ⟨rfl, rfl⟩
theorem refRelease_11 (w : World) : Calls Try.prog 20 #[.int .u8 11] w fun e w' => e = .returned (.bool (rowAt 11).rel) ∧ w = w' := by
  go_enter Try.func20, Try.ntmps20
  go_wp2
  go_ret
  exact ⟨rfl, rfl⟩
theorem refRelease_12 (w : World) : Calls Try.prog 20 #[.int .u8 12] w fun e w' => e = .returned (.bool (rowAt 12).rel) ∧ w = w' := by
  go_enter Try.func20, Try.ntmps20
  go_wp2
  go_ret
  exact ⟨rfl, rfl⟩
theorem refRelease_13 (w : World) : Calls Try.prog 20 #[.int .u8 13] w fun e w' => e = .returned (.bool (rowAt 13).rel) ∧ w = w' := by
  go_enter Try.func20, Try.ntmps20
  go_wp2
  go_ret
  exact ⟨rfl, rfl⟩
theorem refRelease_14 (w : World) : Calls Try.prog 20 #[.int .u8 14] w fun e w' => e = .returned (.bool (rowAt 14).rel) ∧ w = w' := by
  go_enter Try.func20, Try.ntmps20
  go_wp2
  go_ret
  exact ⟨rfl, rfl⟩
theorem refRelease_15 (w : World) : Calls Try.prog 20 #[.int .u8 15] w fun e w' => e = .returned (.bool (rowAt 15).rel) ∧ w = w' := by
  go_enter Try.func20, Try.ntmps20
  go_wp2
  go_ret
  exact ⟨rfl, rfl⟩
theorem refRelease_16 (w : World) : Calls Try.prog 20 #[.int .u8 16] w fun e w' => e = .returned (.bool (rowAt 16).rel) ∧ w = w' := by
  go_enter Try.func20, Try.ntmps20
  go_wp2
  go_ret
  exact ⟨rfl, rfl⟩
theorem refRelease_17 (w : World) : Calls Try.prog 20 #[.int .u8 17] w fun e w' => e = .returned (.bool (rowAt 17).rel) ∧ w = w' := by
  go_enter Try.func20, Try.ntmps20
  go_wp2
  go_ret
  exact ⟨rfl, rfl⟩
theorem refRelease_18 (w : World) : Calls Try.prog 20 #[.int .u8 18] w fun e w' => e = .returned (.bool (rowAt 18).rel) ∧ w = w' := by
  go_enter Try.func20, Try.ntmps20
  go_wp2
  go_ret
  exact ⟨rfl, rfl⟩
theorem refRelease_19 (w : World) : Calls Try.prog 20 #[.int .u8 19] w fun e w' => e = .returned (.bool (rowAt 19).rel) ∧ w = w' := by
  go_enter Try.func20, Try.ntmps20
  go_wp2
  go_ret
  exact ⟨rfl, rfl⟩
theorem refRelease_20 (w : World) : Calls Try.prog 20 #[.int .u8 20] w fun e w' => e = .returned (.bool (rowAt 20).rel) ∧ w = w' := by
  go_enter Try.func20, Try.ntmps20
  go_wp2
  go_ret
  exact ⟨rfl, rfl⟩
theorem refRelease_21 (w : World) : Calls Try.prog 20 #[.int .u8 21] w fun e w' => e = .returned (.bool (rowAt 21).rel) ∧ w = w' := by
  go_enter Try.func20, Try.ntmps20
  go_wp2
  go_ret
  exact ⟨rfl, rfl⟩
theorem refRelease_22 (w : World) : Calls Try.prog 20 #[.int .u8 22] w fun e w' => e = .returned (.bool (rowAt 22).rel) ∧ w = w' := by
  go_enter Try.func20, Try.ntmps20
  go_wp2
  go_ret
  exact ⟨rfl, rfl⟩
theorem refRelease_23 (w : World) : Calls Try.prog 20 #[.int .u8 23] w fun e w' => e = .returned (.bool (rowAt 23).rel) ∧ w = w' := by
  go_enter Try.func20, Try.ntmps20
  go_wp2
  go_ret
  exact ⟨rfl, rfl⟩
theorem refRelease_24 (w : World) : Calls Try.prog 20 #[.int .u8 24] w fun e w' => e = .returned (.bool (rowAt 24).rel) ∧ w = w' := by
  go_enter Try.func20, Try.ntmps20
  go_wp2
  go_ret
  exact ⟨rfl, rfl⟩
theorem refRelease_25 (w : World) : Calls Try.prog 20 #[.int .u8 25] w fun e w' => e = .returned (.bool (rowAt 25).rel) ∧ w = w' := by
  go_enter Try.func20, Try.ntmps20
  go_wp2
  go_ret
  exact ⟨rfl, rfl⟩
theorem refRelease_26 (w : World) : Calls Try.prog 20 #[.int .u8 26] w fun e w' => e = .returned (.bool (rowAt 26).rel) ∧ w = w' := by
  go_enter Try.func20, Try.ntmps20
  go_wp2
  go_ret
  exact ⟨rfl, rfl⟩
theorem refRelease_27 (w : World) : Calls Try.prog 20 #[.int .u8 27] w fun e w' => e = .returned (.bool (rowAt 27).rel) ∧ w = w' := by
  go_enter Try.func20, Try.ntmps20
  go_wp2
  go_ret
  exact ⟨rfl, rfl⟩
theorem refRelease_out (k : Nat) (w : World) (h : 28 ≤ k) : Calls Try.prog 20 #[.int .u8 k] w fun e w' => e = .returned (.bool (rowAt k).rel) ∧ w = w' := by
  rw [rowAt_out k h]
  have e12 : ((k : Int) == 12) = false := by simp; omega
  have e14 : ((k : Int) == 14) = false := by simp; omega
  have e16 : ((k : Int) == 16) = false := by simp; omega
  have e27 : ((k : Int) == 27) = false := by simp; omega
  have l1 : decide (18 ≤ (k : Int)) = true := by simp; omega
  have l2 : decide ((k : Int) ≤ 24) = false := by simp; omega
  go_enter Try.func20, Try.ntmps20
  go_wp2
  go_ret
  exact ⟨rfl, rfl⟩
theorem refRelease_any (k : Nat) (w : World) : Calls Try.prog 20 #[.int .u8 k] w fun e w' => e = .returned (.bool (rowAt k).rel) ∧ w = w' := by
  match k with
  | 0 => exact refRelease_0 w
  | 1 => exact refRelease_1 w
  | 2 => exact refRelease_2 w
  | 3 => exact refRelease_3 w
  | 4 => exact refRelease_4 w
  | 5 => exact refRelease_5 w
  | 6 => exact refRelease_6 w
  | 7 => exact refRelease_7 w
  | 8 => exact refRelease_8 w
  | 9 => exact refRelease_9 w
  | 10 => exact refRelease_10 w
  | 11 => exact refRelease_11 w
  | 12 => exact refRelease_12 w
  | 13 => exact refRelease_13 w
  | 14 => exact refRelease_14 w
  | 15 => exact refRelease_15 w
  | 16 => exact refRelease_16 w
  | 17 => exact refRelease_17 w
  | 18 => exact refRelease_18 w
  | 19 => exact refRelease_19 w
  | 20 => exact refRelease_20 w
  | 21 => exact refRelease_21 w
  | 22 => exact refRelease_22 w
  | 23 => exact refRelease_23 w
  | 24 => exact refRelease_24 w
  | 25 => exact refRelease_25 w
  | 26 => exact refRelease_26 w
  | 27 => exact refRelease_27 w
  | k + 28 => exact refRelease_out (k + 28) w (by omega)

end Go.Proofs.Ytpmfolgihdmcjaa
