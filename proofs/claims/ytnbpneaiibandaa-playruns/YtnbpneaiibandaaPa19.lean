/- What the laws of this seat stand on, part 19. -/
import Derived.Test.YtnbpneaiibandaaPa0
import Derived.Test.YtnbpneaiibandaaPa1
set_option linter.unusedVariables false
set_option linter.unusedSimpArgs false
set_option maxRecDepth 100000
set_option maxHeartbeats 40000000
namespace Go.Proofs.Ytnbpneaiibandaa
open Go.RowKit
def tr (x : Int) : Int := if x = 1 then 2 else if x = 2 then 3 else if x = 3 then 1 else if x = 4 then 5 else if x = 5 then 6 else if x = 6 then 4 else if x = 7 then 8 else if x = 8 then 7 else x
theorem refRow_0 (w : World) : Calls Try.prog 99 #[.int .u8 0] w fun e w' => e = .returned (.slice (some ⟨w.heap.size, 0, none⟩) 3 3) ∧ w' = w.alloc (.cells #[.int .i64 (tr (rowAt 0).a), .int .i64 (tr (rowAt 0).b), .int .i64 (tr (rowAt 0).c)] 3) := by
 go_enter Try.func99, Try.ntmps99
 go_wp2
 go_ret
 exact ⟨rfl, rfl⟩
theorem refRow_1 (w : World) : Calls Try.prog 99 #[.int .u8 1] w fun e w' => e = .returned (.slice (some ⟨w.heap.size, 0, none⟩) 3 3) ∧ w' = w.alloc (.cells #[.int .i64 (tr (rowAt 1).a), .int .i64 (tr (rowAt 1).b), .int .i64 (tr (rowAt 1).c)] 3) := by
 go_enter Try.func99, Try.ntmps99
 go_wp2
 go_ret
 exact ⟨rfl, rfl⟩
theorem refRow_2 (w : World) : Calls Try.prog 99 #[.int .u8 2] w fun e w' => e = .returned (.slice (some ⟨w.heap.size, 0, none⟩) 3 3) ∧ w' = w.alloc (.cells #[.int .i64 (tr (rowAt 2).a), .int .i64 (tr (rowAt 2).b), .int .i64 (tr (rowAt 2).c)] 3) := by
 go_enter Try.func99, Try.ntmps99
 go_wp2
 go_ret
 exact ⟨rfl, rfl⟩
theorem refRow_3 (w : World) : Calls Try.prog 99 #[.int .u8 3] w fun e w' => e = .returned (.slice (some ⟨w.heap.size, 0, none⟩) 3 3) ∧ w' = w.alloc (.cells #[.int .i64 (tr (rowAt 3).a), .int .i64 (tr (rowAt 3).b), .int .i64 (tr (rowAt 3).c)] 3) := by
 go_enter Try.func99, Try.ntmps99
 go_wp2
 go_ret
 exact ⟨rfl, rfl⟩
theorem refRow_4 (w : World) : Calls Try.prog 99 #[.int .u8 4] w fun e w' => e = .returned (.slice (some ⟨w.heap.size, 0, none⟩) 3 3) ∧ w' = w.alloc (.cells #[.int .i64 (tr (rowAt 4).a), .int .i64 (tr (rowAt 4).b), .int .i64 (tr (rowAt 4).c)] 3) := by
 go_enter Try.func99, Try.ntmps99
 go_wp2
 go_ret
 exact ⟨rfl, rfl⟩
theorem refRow_5 (w : World) : Calls Try.prog 99 #[.int .u8 5] w fun e w' => e = .returned (.slice (some ⟨w.heap.size, 0, none⟩) 3 3) ∧ w' = w.alloc (.cells #[.int .i64 (tr (rowAt 5).a), .int .i64 (tr (rowAt 5).b), .int .i64 (tr (rowAt 5).c)] 3) := by
 go_enter Try.func99, Try.ntmps99
 go_wp2
 go_ret
 exact ⟨rfl, rfl⟩
theorem refRow_6 (w : World) : Calls Try.prog 99 #[.int .u8 6] w fun e w' => e = .returned (.slice (some ⟨w.heap.size, 0, none⟩) 3 3) ∧ w' = w.alloc (.cells #[.int .i64 (tr (rowAt 6).a), .int .i64 (tr (rowAt 6).b), .int .i64 (tr (rowAt 6).c)] 3) := by
 go_enter Try.func99, Try.ntmps99
 go_wp2
 go_ret
 exact ⟨rfl, rfl⟩
theorem refRow_7 (w : World) : Calls Try.prog 99 #[.int .u8 7] w fun e w' => e = .returned (.slice (some ⟨w.heap.size, 0, none⟩) 3 3) ∧ w' = w.alloc (.cells #[.int .i64 (tr (rowAt 7).a), .int .i64 (tr (rowAt 7).b), .int .i64 (tr (rowAt 7).c)] 3) := by
 go_enter Try.func99, Try.ntmps99
 go_wp2
 go_ret
 exact ⟨rfl, rfl⟩
theorem refRow_8 (w : World) : Calls Try.prog 99 #[.int .u8 8] w fun e w' => e = .returned (.slice (some ⟨w.heap.size, 0, none⟩) 3 3) ∧ w' = w.alloc (.cells #[.int .i64 (tr (rowAt 8).a), .int .i64 (tr (rowAt 8).b), .int .i64 (tr (rowAt 8).c)] 3) := by
 go_enter Try.func99, Try.ntmps99
 go_wp2
 go_ret
 exact ⟨rfl, rfl⟩
theorem refRow_9 (w : World) : Calls Try.prog 99 #[.int .u8 9] w fun e w' => e = .returned (.slice (some ⟨w.heap.size, 0, none⟩) 3 3) ∧ w' = w.alloc (.cells #[.int .i64 (tr (rowAt 9).a), .int .i64 (tr (rowAt 9).b), .int .i64 (tr (rowAt 9).c)] 3) := by
 go_enter Try.func99, Try.ntmps99
 go_wp2
 go_ret
 exact ⟨rfl, rfl⟩
theorem refRow_10 (w : World) : Calls Try.prog 99 #[.int .u8 10] w fun e w' => e = .returned (.slice (some ⟨w.heap.size, 0, none⟩) 3 3) ∧ w' = w.alloc (.cells #[.int .i64 (tr (rowAt 10).a), .int .i64 (tr (rowAt 10).b), .int .i64 (tr (rowAt 10).c)] 3) := by
 go_enter Try.func99, Try.ntmps99
 go_wp2
 go_ret
 exact ⟨rfl, rfl⟩
theorem refRow_11 (w : World) : Calls Try.prog 99 #[.int .u8 11] w fun e w' => e = .returned (.slice (some ⟨w.heap.size, 0, none⟩) 3 3) ∧ w' = w.alloc (.cells #[.int .i64 (tr (rowAt 11).a), .int .i64 (tr (rowAt 11).b), .int .i64 (tr (rowAt 11).c)] 3) := by
 go_enter Try.func99, Try.ntmps99
 go_wp2
 go_ret
 exact ⟨rfl, rfl⟩
theorem refRow_12 (w : World) : Calls Try.prog 99 #[.int .u8 12] w fun e w' => e = .returned (.slice (some ⟨w.heap.size, 0, none⟩) 3 3) ∧ w' = w.alloc (.cells #[.int .i64 (tr (rowAt 12).a), .int .i64 (tr (rowAt 12).b), .int .i64 (tr (rowAt 12).c)] 3) := by
 go_enter Try.func99, Try.ntmps99
 go_wp2
 go_ret
 exact ⟨rfl, rfl⟩
theorem refRow_13 (w : World) : Calls Try.prog 99 #[.int .u8 13] w fun e w' => e = .returned (.slice (some ⟨w.heap.size, 0, none⟩) 3 3) ∧ w' = w.alloc (.cells #[.int .i64 (tr (rowAt 13).a), .int .i64 (tr (rowAt 13).b), .int .i64 (tr (rowAt 13).c)] 3) := by
 go_enter Try.func99, Try.ntmps99
 go_wp2
 go_ret
 exact ⟨rfl, rfl⟩
theorem refRow_14 (w : World) : Calls Try.prog 99 #[.int .u8 14] w fun e w' => e = .returned (.slice (some ⟨w.heap.size, 0, none⟩) 3 3) ∧ w' = w.alloc (.cells #[.int .i64 (tr (rowAt 14).a), .int .i64 (tr (rowAt 14).b), .int .i64 (tr (rowAt 14).c)] 3) := by
 go_enter Try.func99, Try.ntmps99
 go_wp2
 go_ret
 exact ⟨rfl, rfl⟩
theorem refRow_15 (w : World) : Calls Try.prog 99 #[.int .u8 15] w fun e w' => e = .returned (.slice (some ⟨w.heap.size, 0, none⟩) 3 3) ∧ w' = w.alloc (.cells #[.int .i64 (tr (rowAt 15).a), .int .i64 (tr (rowAt 15).b), .int .i64 (tr (rowAt 15).c)] 3) := by
 go_enter Try.func99, Try.ntmps99
 go_wp2
 go_ret
 exact ⟨rfl, rfl⟩
theorem refRow_16 (w : World) : Calls Try.prog 99 #[.int .u8 16] w fun e w' => e = .returned (.slice (some ⟨w.heap.size, 0, none⟩) 3 3) ∧ w' = w.alloc (.cells #[.int .i64 (tr (rowAt 16).a), .int .i64 (tr (rowAt 16).b), .int .i64 (tr (rowAt 16).c)] 3) := by
 go_enter Try.func99, Try.ntmps99
 go_wp2
 go_ret
 exact ⟨rfl, rfl⟩
theorem refRow_17 (w : World) : Calls Try.prog 99 #[.int .u8 17] w fun e w' => e = .returned (.slice (some ⟨w.heap.size, 0, none⟩) 3 3) ∧ w' = w.alloc (.cells #[.int .i64 (tr (rowAt 17).a), .int .i64 (tr (rowAt 17).b), .int .i64 (tr (rowAt 17).c)] 3) := by
 go_enter Try.func99, Try.ntmps99
 go_wp2
 go_ret
 exact ⟨rfl, rfl⟩
theorem refRow_18 (w : World) : Calls Try.prog 99 #[.int .u8 18] w fun e w' => e = .returned (.slice (some ⟨w.heap.size, 0, none⟩) 3 3) ∧ w' = w.alloc (.cells #[.int .i64 (tr (rowAt 18).a), .int .i64 (tr (rowAt 18).b), .int .i64 (tr (rowAt 18).c)] 3) := by
 go_enter Try.func99, Try.ntmps99
 go_wp2
 go_ret
 exact ⟨rfl, rfl⟩
theorem refRow_19 (w : World) : Calls Try.prog 99 #[.int .u8 19] w fun e w' => e = .returned (.slice (some ⟨w.heap.size, 0, none⟩) 3 3) ∧ w' = w.alloc (.cells #[.int .i64 (tr (rowAt 19).a), .int .i64 (tr (rowAt 19).b), .int .i64 (tr (rowAt 19).c)] 3) := by
 go_enter Try.func99, Try.ntmps99
 go_wp2
 go_ret
 exact ⟨rfl, rfl⟩
theorem refRow_20 (w : World) : Calls Try.prog 99 #[.int .u8 20] w fun e w' => e = .returned (.slice (some ⟨w.heap.size, 0, none⟩) 3 3) ∧ w' = w.alloc (.cells #[.int .i64 (tr (rowAt 20).a), .int .i64 (tr (rowAt 20).b), .int .i64 (tr (rowAt 20).c)] 3) := by
 go_enter Try.func99, Try.ntmps99
 go_wp2
 go_ret
 exact ⟨rfl, rfl⟩
theorem refRow_21 (w : World) : Calls Try.prog 99 #[.int .u8 21] w fun e w' => e = .returned (.slice (some ⟨w.heap.size, 0, none⟩) 3 3) ∧ w' = w.alloc (.cells #[.int .i64 (tr (rowAt 21).a), .int .i64 (tr (rowAt 21).b), .int .i64 (tr (rowAt 21).c)] 3) := by
 go_enter Try.func99, Try.ntmps99
 go_wp2
 go_ret
 exact ⟨rfl, rfl⟩
theorem refRow_22 (w : World) : Calls Try.prog 99 #[.int .u8 22] w fun e w' => e = .returned (.slice (some ⟨w.heap.size, 0, none⟩) 3 3) ∧ w' = w.alloc (.cells #[.int .i64 (tr (rowAt 22).a), .int .i64 (tr (rowAt 22).b), .int .i64 (tr (rowAt 22).c)] 3) := by
 go_enter Try.func99, Try.ntmps99
 go_wp2
 go_ret
 exact ⟨rfl, rfl⟩
theorem refRow_23 (w : World) : Calls Try.prog 99 #[.int .u8 23] w fun e w' => e = .returned (.slice (some ⟨w.heap.size, 0, none⟩) 3 3) ∧ w' = w.alloc (.cells #[.int .i64 (tr (rowAt 23).a), .int .i64 (tr (rowAt 23).b), .int .i64 (tr (rowAt 23).c)] 3) := by
 go_enter Try.func99, Try.ntmps99
 go_wp2
 go_ret
 exact ⟨rfl, rfl⟩
theorem refRow_24 (w : World) : Calls Try.prog 99 #[.int .u8 24] w fun e w' => e = .returned (.slice (some ⟨w.heap.size, 0, none⟩) 3 3) ∧ w' = w.alloc (.cells #[.int .i64 (tr (rowAt 24).a), .int .i64 (tr (rowAt 24).b), .int .i64 (tr (rowAt 24).c)] 3) := by
 go_enter Try.func99, Try.ntmps99
 go_wp2
 go_ret
 exact ⟨rfl, rfl⟩
theorem refRow_25 (w : World) : Calls Try.prog 99 #[.int .u8 25] w fun e w' => e = .returned (.slice (some ⟨w.heap.size, 0, none⟩) 3 3) ∧ w' = w.alloc (.cells #[.int .i64 (tr (rowAt 25).a), .int .i64 (tr (rowAt 25).b), .int .i64 (tr (rowAt 25).c)] 3) := by
 go_enter Try.func99, Try.ntmps99
 go_wp2
 go_ret
 exact ⟨rfl, rfl⟩
theorem refRow_26 (w : World) : Calls Try.prog 99 #[.int .u8 26] w fun e w' => e = .returned (.slice (some ⟨w.heap.size, 0, none⟩) 3 3) ∧ w' = w.alloc (.cells #[.int .i64 (tr (rowAt 26).a), .int .i64 (tr (rowAt 26).b), .int .i64 (tr (rowAt 26).c)] 3) := by
 go_enter Try.func99, Try.ntmps99
 go_wp2
 go_ret
 exact ⟨rfl, rfl⟩
theorem refRow_27 (w : World) : Calls Try.prog 99 #[.int .u8 27] w fun e w' => e = .returned (.slice (some ⟨w.heap.size, 0, none⟩) 3 3) ∧ w' = w.alloc (.cells #[.int .i64 (tr (rowAt 27).a), .int .i64 (tr (rowAt 27).b), .int .i64 (tr (rowAt 27).c)] 3) := by
 go_enter Try.func99, Try.ntmps99
 go_wp2
 go_ret
 exact ⟨rfl, rfl⟩
theorem refRow_out (k : Nat) (w : World) (h : 28 ≤ k) : Calls Try.prog 99 #[.int .u8 k] w fun e w' => e = .returned (.slice (some ⟨w.heap.size, 0, none⟩) 3 3) ∧ w' = w.alloc (.cells #[.int .i64 (tr (rowAt k).a), .int .i64 (tr (rowAt k).b), .int .i64 (tr (rowAt k).c)] 3) := by
 rw [rowAt_out k h]
 have e1 : ((k : Int) == 1) = false := by simp; omega
 have e2 : ((k : Int) == 2) = false := by simp; omega
 have e3 : ((k : Int) == 3) = false := by simp; omega
 have e4 : ((k : Int) == 4) = false := by simp; omega
 have e5 : ((k : Int) == 5) = false := by simp; omega
 have e6 : ((k : Int) == 6) = false := by simp; omega
 have e7 : ((k : Int) == 7) = false := by simp; omega
 have e8 : ((k : Int) == 8) = false := by simp; omega
 have e9 : ((k : Int) == 9) = false := by simp; omega
 have e10 : ((k : Int) == 10) = false := by simp; omega
 have e11 : ((k : Int) == 11) = false := by simp; omega
 have e12 : ((k : Int) == 12) = false := by simp; omega
 have e13 : ((k : Int) == 13) = false := by simp; omega
 have e14 : ((k : Int) == 14) = false := by simp; omega
 have e15 : ((k : Int) == 15) = false := by simp; omega
 have e16 : ((k : Int) == 16) = false := by simp; omega
 have e17 : ((k : Int) == 17) = false := by simp; omega
 have e18 : ((k : Int) == 18) = false := by simp; omega
 have e19 : ((k : Int) == 19) = false := by simp; omega
 have e20 : ((k : Int) == 20) = false := by simp; omega
 have e21 : ((k : Int) == 21) = false := by simp; omega
 have e22 : ((k : Int) == 22) = false := by simp; omega
 have e23 : ((k : Int) == 23) = false := by simp; omega
 have e24 : ((k : Int) == 24) = false := by simp; omega
 have e25 : ((k : Int) == 25) = false := by simp; omega
 have e26 : ((k : Int) == 26) = false := by simp; omega
 have e27 : ((k : Int) == 27) = false := by simp; omega
 go_enter Try.func99, Try.ntmps99
 go_wp2
 go_ret
 exact ⟨rfl, rfl⟩
theorem refRow_any (k : Nat) (w : World) : Calls Try.prog 99 #[.int .u8 k] w fun e w' => e = .returned (.slice (some ⟨w.heap.size, 0, none⟩) 3 3) ∧ w' = w.alloc (.cells #[.int .i64 (tr (rowAt k).a), .int .i64 (tr (rowAt k).b), .int .i64 (tr (rowAt k).c)] 3) := by
 match k with
 | 0 => exact refRow_0 w
 | 1 => exact refRow_1 w
 | 2 => exact refRow_2 w
 | 3 => exact refRow_3 w
 | 4 => exact refRow_4 w
 | 5 => exact refRow_5 w
 | 6 => exact refRow_6 w
 | 7 => exact refRow_7 w
 | 8 => exact refRow_8 w
 | 9 => exact refRow_9 w
 | 10 => exact refRow_10 w
 | 11 => exact refRow_11 w
 | 12 => exact refRow_12 w
 | 13 => exact refRow_13 w
 | 14 => exact refRow_14 w
 | 15 => exact refRow_15 w
 | 16 => exact refRow_16 w
 | 17 => exact refRow_17 w
 | 18 => exact refRow_18 w
 | 19 => exact refRow_19 w
 | 20 => exact refRow_20 w
 | 21 => exact refRow_21 w
 | 22 => exact refRow_22 w
 | 23 => exact refRow_23 w
 | 24 => exact refRow_24 w
 | 25 => exact refRow_25 w
 | 26 => exact refRow_26 w
 | 27 => exact refRow_27 w
 | k + 28 => exact refRow_out (k + 28) w (by omega)
theorem refNumbers_any (op a b c : Int) (w : World) :
  Calls Try.prog 100 #[.agg #[.int .u8 op, .int .i64 a, .int .i64 b, .int .i64 c]] w fun e w' => e = .returned (.slice (some ⟨w.heap.size + 1, 0, none⟩) 3 3) ∧ w'.heap[w.heap.size + 1]? = some (.cells #[.int .i64 a, .int .i64 b, .int .i64 c] 3) ∧ Below w.heap.size w w' := by
 go_enter Try.func100, Try.ntmps100
 go_wp2
 go_ret
 exact ⟨rfl, heap_alloc2_new _ _ _, ((Below.refl _ _).alloc (Nat.le_refl _) _).alloc (by simp) _⟩
theorem lt_of_blk {w : World} {b : Nat} {o : Obj} (h : w.heap[b]? = some o) : b < w.heap.size := (Array.getElem?_eq_some_iff.1 h).1
theorem tr_cell {w : World} {g : Nat} {r : Row} {t : TypeId} {fr : Nat × Nat} (h : w.heap[g]? = some (.cells #[.int .i64 (tr r.a), .int .i64 (tr r.b), .int .i64 (tr r.c)] t fr)) (k : Nat) (hk : k < 3) :
  w.cell? ⟨g, k, none⟩ = some (.int .i64 (tr (r.at k))) := by
 rw [cell_of_row w g k _ _ _ h]
 obtain rfl | rfl | rfl : k = 0 ∨ k = 1 ∨ k = 2 := by omega
 ·rfl
 ·rfl
 ·rfl
theorem num_cell {w : World} {g : Nat} {x : InsD} {t : TypeId} {fr : Nat × Nat} (h : w.heap[g]? = some (.cells #[.int .i64 x.a, .int .i64 x.b, .int .i64 x.c] t fr)) (k : Nat) (hk : k < 3) :
  w.cell? ⟨g, k, none⟩ = some (.int .i64 (x.at k)) := by
 rw [cell_of_row w g k _ _ _ h]
 obtain rfl | rfl | rfl : k = 0 ∨ k = 1 ∨ k = 2 := by omega
 ·rfl
 ·rfl
 ·rfl
theorem tr_none {x : Int} (h0 : 0 ≤ x) (h1 : x < 12) : tr x = 0 ↔ x = 0 := by unfold tr; split <;> (try split) <;> (try split) <;> (try split) <;> (try split) <;> (try split) <;> (try split) <;> (try split) <;> omega
def manyR (p : ProgD) (n : Int) (y : Int) : Int :=
 if y = 1 ∨ y = 2 then 4 else if y = 6 then p.vars else if y = 4 then n + 1 else if y = 5 then (p.threads.length : Int) else if y = 8 then p.locks else if y = 7 then p.atoms else if y = 9 then (p.chans.length : Int) else if y = 10 then p.groups else p.onces
theorem refMany_1 (p : ProgD) (ca : Option Addr) (ccap : Nat) (ta : Option Addr) (tcap n : Nat) (w : World) (hn : n ≤ 60) :
  Calls Try.prog 101 #[p.val ca ccap ta tcap, .int .i64 2, .int .i64 n] w fun e w' => e = .returned (.int .i64 4) ∧ Below w.heap.size w w' := by
 go_enter Try.func101, Try.ntmps101
 go_wp2
 go_ret
 exact ⟨rfl, (Below.refl _ _).alloc (Nat.le_refl _) _⟩
theorem refMany_2 (p : ProgD) (ca : Option Addr) (ccap : Nat) (ta : Option Addr) (tcap n : Nat) (w : World) (hn : n ≤ 60) :
  Calls Try.prog 101 #[p.val ca ccap ta tcap, .int .i64 3, .int .i64 n] w fun e w' => e = .returned (.int .i64 4) ∧ Below w.heap.size w w' := by
 go_enter Try.func101, Try.ntmps101
 go_wp2
 go_ret
 exact ⟨rfl, (Below.refl _ _).alloc (Nat.le_refl _) _⟩
theorem refMany_4 (p : ProgD) (ca : Option Addr) (ccap : Nat) (ta : Option Addr) (tcap n : Nat) (w : World) (hn : n ≤ 60) :
  Calls Try.prog 101 #[p.val ca ccap ta tcap, .int .i64 5, .int .i64 n] w fun e w' => e = .returned (.int .i64 ((n : Int) + 1)) ∧ Below w.heap.size w w' := by
 go_enter Try.func101, Try.ntmps101
 go_wp2
 go_ret
 exact ⟨rfl, (Below.refl _ _).alloc (Nat.le_refl _) _⟩
theorem refMany_5 (p : ProgD) (ca : Option Addr) (ccap : Nat) (ta : Option Addr) (tcap n : Nat) (w : World) (hn : n ≤ 60) :
  Calls Try.prog 101 #[p.val ca ccap ta tcap, .int .i64 6, .int .i64 n] w fun e w' => e = .returned (.int .i64 (p.threads.length : Int)) ∧ Below w.heap.size w w' := by
 go_enter Try.func101, Try.ntmps101
 go_wp2
 go_ret
 exact ⟨rfl, (Below.refl _ _).alloc (Nat.le_refl _) _⟩
theorem refMany_6 (p : ProgD) (ca : Option Addr) (ccap : Nat) (ta : Option Addr) (tcap n : Nat) (w : World) (hn : n ≤ 60) :
  Calls Try.prog 101 #[p.val ca ccap ta tcap, .int .i64 4, .int .i64 n] w fun e w' => e = .returned (.int .i64 p.vars) ∧ Below w.heap.size w w' := by
 go_enter Try.func101, Try.ntmps101
 go_wp2
 go_ret
 exact ⟨rfl, (Below.refl _ _).alloc (Nat.le_refl _) _⟩
theorem refMany_7 (p : ProgD) (ca : Option Addr) (ccap : Nat) (ta : Option Addr) (tcap n : Nat) (w : World) (hn : n ≤ 60) :
  Calls Try.prog 101 #[p.val ca ccap ta tcap, .int .i64 8, .int .i64 n] w fun e w' => e = .returned (.int .i64 p.atoms) ∧ Below w.heap.size w w' := by
 go_enter Try.func101, Try.ntmps101
 go_wp2
 go_ret
 exact ⟨rfl, (Below.refl _ _).alloc (Nat.le_refl _) _⟩
theorem refMany_8 (p : ProgD) (ca : Option Addr) (ccap : Nat) (ta : Option Addr) (tcap n : Nat) (w : World) (hn : n ≤ 60) :
  Calls Try.prog 101 #[p.val ca ccap ta tcap, .int .i64 7, .int .i64 n] w fun e w' => e = .returned (.int .i64 p.locks) ∧ Below w.heap.size w w' := by
 go_enter Try.func101, Try.ntmps101
 go_wp2
 go_ret
 exact ⟨rfl, (Below.refl _ _).alloc (Nat.le_refl _) _⟩
theorem refMany_9 (p : ProgD) (ca : Option Addr) (ccap : Nat) (ta : Option Addr) (tcap n : Nat) (w : World) (hn : n ≤ 60) :
  Calls Try.prog 101 #[p.val ca ccap ta tcap, .int .i64 9, .int .i64 n] w fun e w' => e = .returned (.int .i64 (p.chans.length : Int)) ∧ Below w.heap.size w w' := by
 go_enter Try.func101, Try.ntmps101
 go_wp2
 go_ret
 exact ⟨rfl, (Below.refl _ _).alloc (Nat.le_refl _) _⟩
theorem refMany_10 (p : ProgD) (ca : Option Addr) (ccap : Nat) (ta : Option Addr) (tcap n : Nat) (w : World) (hn : n ≤ 60) :
  Calls Try.prog 101 #[p.val ca ccap ta tcap, .int .i64 10, .int .i64 n] w fun e w' => e = .returned (.int .i64 p.groups) ∧ Below w.heap.size w w' := by
 go_enter Try.func101, Try.ntmps101
 go_wp2
 go_ret
 exact ⟨rfl, (Below.refl _ _).alloc (Nat.le_refl _) _⟩
theorem refMany_11 (p : ProgD) (ca : Option Addr) (ccap : Nat) (ta : Option Addr) (tcap n : Nat) (w : World) (hn : n ≤ 60) :
  Calls Try.prog 101 #[p.val ca ccap ta tcap, .int .i64 11, .int .i64 n] w fun e w' => e = .returned (.int .i64 p.onces) ∧ Below w.heap.size w w' := by
 go_enter Try.func101, Try.ntmps101
 go_wp2
 go_ret
 exact ⟨rfl, (Below.refl _ _).alloc (Nat.le_refl _) _⟩
theorem refMany_any (p : ProgD) (ca : Option Addr) (ccap : Nat) (ta : Option Addr) (tcap n : Nat) (y : Nat) (w : World) (hn : n ≤ 60) (h0 : 1 ≤ y) (h1 : y < 12) (h3 : y ≠ 3) :
  Calls Try.prog 101 #[p.val ca ccap ta tcap, .int .i64 (tr y), .int .i64 n] w fun e w' => e = .returned (.int .i64 (manyR p n y)) ∧ Below w.heap.size w w' := by
 match y, h0, h1, h3 with
 | 1, _, _, _ => exact refMany_1 p ca ccap ta tcap n w hn
 | 2, _, _, _ => exact refMany_2 p ca ccap ta tcap n w hn
 | 4, _, _, _ => exact refMany_4 p ca ccap ta tcap n w hn
 | 5, _, _, _ => exact refMany_5 p ca ccap ta tcap n w hn
 | 6, _, _, _ => exact refMany_6 p ca ccap ta tcap n w hn
 | 7, _, _, _ => exact refMany_7 p ca ccap ta tcap n w hn
 | 8, _, _, _ => exact refMany_8 p ca ccap ta tcap n w hn
 | 9, _, _, _ => exact refMany_9 p ca ccap ta tcap n w hn
 | 10, _, _, _ => exact refMany_10 p ca ccap ta tcap n w hn
 | 11, _, _, _ => exact refMany_11 p ca ccap ta tcap n w hn
 | 3, _, _, h => exact absurd rfl h
 | y + 12, _, h, _ => omega
theorem can_many (p : ProgD) (n : Nat) (y : Nat) (v : Int) (h0 : 1 ≤ y) (h1 : y < 12) (h3 : y ≠ 3) : canB ((canL p n).getD y none) v = (decide (0 ≤ v) && decide (v < manyR p n y) && !(decide (y = 5) && decide (v = 0))) := by
 rw [Bool.eq_iff_iff]
 match y, h0, h1, h3 with
 | 1, _, _, _ => simp [canL, canB, wiB, manyR]; omega
 | 2, _, _, _ => simp [canL, canB, wiB, manyR]; omega
 | 4, _, _, _ => simp [canL, canB, wiB, manyR]; omega
 | 5, _, _, _ => simp [canL, canB, wiB, manyR]; omega
 | 6, _, _, _ => simp [canL, canB, wiB, manyR]; omega
 | 7, _, _, _ => simp [canL, canB, wiB, manyR]; omega
 | 8, _, _, _ => simp [canL, canB, wiB, manyR]; omega
 | 9, _, _, _ => simp [canL, canB, wiB, manyR]; omega
 | 10, _, _, _ => simp [canL, canB, wiB, manyR]; omega
 | 11, _, _, _ => simp [canL, canB, wiB, manyR]; omega
 | 3, _, _, h => exact absurd rfl h
 | y + 12, _, h, _ => omega
theorem wordsB_none {r : Row} {x : InsD} : ∀ {k j : Nat}, wordsB r x k = true → j < k → r.at j = 0 → x.at j = 0
 | k + 1, j, h, hj, h0 => by
  unfold wordsB at h
  rw [Bool.and_eq_true] at h
  by_cases e : j = k
  ·subst e
   have := h.2
   simpa [h0] using this
  ·exact wordsB_none h.1 (by omega) h0
theorem insE_unknown (p : ProgD) (n : Nat) (x : InsD) (h : knownB x = false) : insE p n x = 20 := by unfold insE; rw [h]; rfl
theorem insE_known (p : ProgD) (n : Nat) (x : InsD) (h : knownB x = true) : insE p n x = unE (fitsB p n x) 21 := by
 unfold insE; rw [h]
 show firstE [0, _] = _
 show firstE [unE (fitsB p n x) 21] = _
 unfold firstE firstE; split <;> simp_all
def conj9 (u : World) (gn gr bp j : Nat) (v t : Int) (c0 c1 c2 c3 c4 c5 c6 : Value) : Prop := u.cell? ⟨gn, j, none⟩ = some (.int .i64 v) ∧ u.cell? ⟨gr, j, none⟩ = some (.int .i64 t) ∧ u.cell? ⟨bp, 0, none⟩ = some c0 ∧ u.cell? ⟨bp, 1, none⟩ = some c1 ∧ u.cell? ⟨bp, 2, none⟩ = some c2 ∧ u.cell? ⟨bp, 3, none⟩ = some c3 ∧ u.cell? ⟨bp, 4, none⟩ = some c4 ∧ u.cell? ⟨bp, 5, none⟩ = some c5 ∧ u.cell? ⟨bp, 6, none⟩ = some c6
theorem keepC {u u' : World} {b o : Nat} {v : Value} (h : u.cell? ⟨b, o, none⟩ = some v) (hB : Below u.heap.size u u') : u'.cell? ⟨b, o, none⟩ = some v := (hB.cell (p := ⟨b, o, none⟩) (cell_lt h)).trans h
theorem keepI9 {u u' : World} {gn gr bp j : Nat} {v t : Int} {c0 c1 c2 c3 c4 c5 c6 : Value} (h : conj9 u gn gr bp j v t c0 c1 c2 c3 c4 c5 c6) (hB : Below u.heap.size u u') : conj9 u' gn gr bp j v t c0 c1 c2 c3 c4 c5 c6 := by
 obtain ⟨h0, h1, h2, h3, h4, h5, h6, h7, h8⟩ := h
 exact ⟨keepC h0 hB, keepC h1 hB, keepC h2 hB, keepC h3 hB, keepC h4 hB, keepC h5 hB, keepC h6 hB, keepC h7 hB, keepC h8 hB⟩
theorem cells7' {w : World} {g : Nat} {a b c d e f h : Value} {t : TypeId} {fr : Nat × Nat} (hb : w.heap[g]? = some (.cells #[a, b, c, d, e, f, h] t fr)) :
  w.cell? ⟨g, 0, none⟩ = some a ∧ w.cell? ⟨g, 1, none⟩ = some b ∧ w.cell? ⟨g, 2, none⟩ = some c ∧ w.cell? ⟨g, 3, none⟩ = some d ∧ w.cell? ⟨g, 4, none⟩ = some e ∧ w.cell? ⟨g, 5, none⟩ = some f ∧ w.cell? ⟨g, 6, none⟩ = some h :=
 ⟨cell_of_row w g 0 _ _ _ hb, cell_of_row w g 1 _ _ _ hb, cell_of_row w g 2 _ _ _ hb, cell_of_row w g 3 _ _ _ hb, cell_of_row w g 4 _ _ _ hb, cell_of_row w g 5 _ _ _ hb, cell_of_row w g 6 _ _ _ hb⟩
theorem kept_three {w w1 : World} {a b c : Obj} (h : Below (((w.alloc a).alloc b).alloc c).heap.size (((w.alloc a).alloc b).alloc c) w1) : w1.heap[w.heap.size]? = some a ∧ w1.heap[w.heap.size + 1]? = some b ∧ w1.heap[w.heap.size + 1 + 1]? = some c := by
 have hs : ((w.alloc a).alloc b).heap.size = w.heap.size + 1 + 1 := by simp
 refine ⟨(h.block _ (by first | (simp; done) | (simp; omega))).trans ((Below.heap_alloc _ _ _ (by first | (simp; done) | (simp; omega))).trans (heap_alloc2_old _ _ _)), (h.block _ (by first | (simp; done) | (simp; omega))).trans ((Below.heap_alloc _ _ _ (by first | (simp; done) | (simp; omega))).trans (heap_alloc2_new _ _ _)), ?_⟩
 refine (h.block (w.heap.size + 1 + 1) (by first | (simp; done) | (simp; omega))).trans ?_
 rw [← hs]; exact heap_alloc_new _ _
theorem tr_bool0 (y : Nat) (h : y < 12) (h0 : y ≠ 0) : (tr (y : Int) == 0) = false := by
 rw [beq_eq_false_iff_ne]; intro e; exact h0 (by have := (tr_none (x := y) (by omega) (by omega)).1 e; omega)
theorem tr_bool1 (y : Nat) (h : y < 12) (h3 : y ≠ 3) : (tr (y : Int) == 1) = false := by
 have hall : (List.range 12).all (fun y => decide (y = 3) || !(tr (y : Int) == 1)) = true := by decide
 have := List.all_eq_true.1 hall y (by simpa using h)
 simpa [h3] using this
theorem tr_bool6 (y : Nat) (h : y < 12) : (tr (y : Int) == 6) = decide (y = 5) := by
 have hall : (List.range 12).all (fun y => (tr (y : Int) == 6) == decide (y = 5)) = true := by decide
 simpa using List.all_eq_true.1 hall y (by simpa using h)
def RelIns (p : ProgD) (n : Nat) (r : Row) (x : InsD) (w2 : World) (i : Value) (u : World) : Prop := ∃ j : Nat, j ≤ 3 ∧ i = .int .i64 j ∧ fitB (canL p n) r x j = true ∧ Below w2.heap.size w2 u
theorem refIns_any (p : ProgD) (ca : Option Addr) (ccap : Nat) (ta : Option Addr) (tcap n : Nat) (x : InsD) (w : World) (hn : n ≤ 60) :
  Calls Try.prog 77 #[p.val ca ccap ta tcap, .agg #[.int .u8 x.op, .int .i64 x.a, .int .i64 x.b, .int .i64 x.c], .int .i64 n] w fun e w' => e = .returned (.int .i64 (insE p n x)) ∧ Below w.heap.size w w' := by
 have H := refRow_any x.op
 have HWd := Lib.hid (word_lt x.op)
 have HU := Lib.hid (insE_unknown p n x)
 have HKn := Lib.hid (insE_known p n x)
 unfold knownB at HU HKn
 unfold fitsB at HKn
 generalize rowAt x.op = r at H HWd HU HKn ⊢
 have H := Lib.hid H
 go_enter Try.func77, Try.ntmps77
 go_wp2_with (first
  | (go_at_call 99; refine (H.out _).mono ?_; rintro e w1 ⟨rfl, rfl⟩)
  | (go_at_call 100; refine (refNumbers_any _ _ _ _ _).mono ?_; rintro e w2 ⟨rfl, hN2, hB2⟩))
 have hs3 : (((w.alloc (.cells #[.int .i64 p.vars, .int .i64 p.atoms, .int .i64 p.locks, .slice ca p.chans.length ccap, .int .i64 p.groups, .int .i64 p.onces, .slice ta p.threads.length tcap] 28)).alloc (.cells #[.int .u8 x.op, .int .i64 x.a, .int .i64 x.b, .int .i64 x.c] 49)).alloc (.cells #[.int .i64 (tr r.a), .int .i64 (tr r.b), .int .i64 (tr r.c)] 3)).heap.size = w.heap.size + 1 + 1 + 1 := by simp
 obtain ⟨kp, kx, kr⟩ := kept_three hB2
 rw [hs3] at hN2
 have hB : Below w.heap.size w w2 := ((((Below.refl _ _).alloc (Nat.le_refl _) _).alloc (by simp) _).alloc (by simp; omega) _).trans (hB2.mono (by simp; omega))
 have HNm := Lib.hid hN2
 have HRw := Lib.hid kr
 have cx := (cells4 kx).1
 obtain ⟨p0, p1, p2, p3, p4, p5, p6⟩ := cells7' kp
 have HP := Lib.hid kp
 have hL := lt_of_blk hN2
 clear kp kx kr hB2 hN2 hs3
 by_cases hop : x.op < 28
 ·have hd : decide ((27 : Int) < (x.op : Int)) = false := by simp; omega
  go_loop [9] (fun i => ∃ j : Nat, j ≤ 3 ∧ i = .int .i64 j ∧ Hid (wordsB r x j = true)) (fun i => 3 - (intOf i).toNat)
  case atStart => exact ⟨0, Nat.zero_le _, rfl, Lib.hid rfl⟩
  case round =>
   obtain ⟨j, hj, rfl, HW⟩ := hrel
   by_cases hlt : j < 3
   ·have hrj := tr_cell HRw.out j hlt
    have hnj := num_cell HNm.out j hlt
    obtain ⟨hy0, hy1⟩ := HWd.out j
    by_cases hz : r.at j = 0
    ·have hz' : (tr (r.at j) == 0) = true := by simpa using (tr_none hy0 hy1).2 hz
     by_cases hx : x.at j = 0
     ·have hx' : (x.at j != 0) = false := by simp [hx]
      have HN := Lib.hid (wordsB_on HW.out (.inr hx))
      clear hz hx
      go_wp2
      go_round
      case rel => exact ⟨j + 1, by omega, by go_num, HN⟩
      case measure => simp [intOf]; omega
     ·have hx' : (x.at j != 0) = true := by simp [hx]
      have HN := Lib.hid (HU.out (by rw [wordsB_stop hz hx 3 hlt]; rfl))
      clear hz hx
      go_wp2
      go_ret
      exact ⟨ret_int HN.out.symm, hB⟩
    ·have hz' : (tr (r.at j) == 0) = false := by simpa using fun h => hz ((tr_none hy0 hy1).1 h)
     have HN := Lib.hid (wordsB_on (x := x) HW.out (.inl hz))
     clear hz
     go_wp2
     go_round
     case rel => exact ⟨j + 1, by omega, by go_num, HN⟩
     case measure => simp [intOf]; omega
   ·obtain rfl : j = 3 := by omega
    have HE := Lib.hid (HKn.out (by rw [HW.out]; simp [hop]))
    go_wp2_with fail
    go_loopw [10] (fun i u => RelIns p n r x w2 i u) (fun i _ => 3 - (intOf i).toNat)
    case atStart => exact ⟨0, Nat.zero_le _, rfl, rfl, Below.refl _ _⟩
    case round =>
     obtain ⟨j, hj, rfl, hF, hb⟩ := hrel
     have HF := Lib.hid hF
     clear hF
     by_cases hlt : j < 3
     ·have hrj := tr_cell ((hb.block _ (by omega)).trans HRw.out) j hlt
      have hnj := num_cell ((hb.block _ hL).trans HNm.out) j hlt
      obtain ⟨p0, p1, p2, p3, p4, p5, p6⟩ := cells7' ((hb.block _ (by omega)).trans HP.out)
      obtain ⟨hy0, hy1⟩ := HWd.out j
      obtain ⟨y, hy⟩ := Int.eq_ofNat_of_zero_le hy0
      have hy12 : y < 12 := by omega
      by_cases hz : y = 0
      ·have hz' : (tr (r.at j) == 0) = true := by rw [hy, hz]; decide
       have HN := Lib.hid (show fitB (canL p n) r x (j + 1) = true by
        unfold fitB
        rw [HF.out, hy, hz, wordsB_none HW.out hlt (by rw [hy, hz]; rfl)]; rfl)
       clear hy hz
       go_wp2
       go_roundw
       case rel => exact ⟨j + 1, by omega, by go_num, HN.out, hb⟩
       case measure => simp [intOf]; omega
      ·by_cases hz3 : y = 3
       ·have hz' : (tr (r.at j) == 0) = false := by rw [hy, hz3]; decide
        have hz1 : (tr (r.at j) == 1) = true := by rw [hy, hz3]; decide
        have HN := Lib.hid (show fitB (canL p n) r x (j + 1) = true by
         unfold fitB
         rw [HF.out, hy, hz3]; rfl)
        clear hy hz
        go_wp2
        go_roundw
        case rel => exact ⟨j + 1, by omega, by go_num, HN.out, hb⟩
        case measure => simp [intOf]; omega
       ·have hz' : (tr (r.at j) == 0) = false := by rw [hy]; exact tr_bool0 y hy12 hz
        have hz1 : (tr (r.at j) == 1) = false := by rw [hy]; exact tr_bool1 y hy12 hz3
        have h6 : (tr (r.at j) == 6) = decide (y = 5) := by rw [hy]; exact tr_bool6 y hy12
        have HCan := Lib.hid (can_many p n y (x.at j) (by omega) hy12 hz3)
        have HMany := Lib.hid (fun u => refMany_any p ca ccap ta tcap n y u hn (by omega) hy12 hz3)
        rw [hy] at hrj hz' hz1 h6
        have HToN := Lib.hid (show (r.at j).toNat = y by rw [hy]; simp)
        have HFit := Lib.hid (show fitB (canL p n) r x (j + 1) = canB ((canL p n).getD y none) (x.at j) by unfold fitB; rw [HF.out, hy]; simp)
        generalize manyR p n (y : Int) = M at HMany HCan
        clear hy hz
        have mkStop : canB ((canL p n).getD y none) (x.at j) = false → Hid (fitB (canL p n) r x 3 = false) := fun h => Lib.hid (fitB_stop (by rw [HToN.out]; exact h) 3 hlt)
        by_cases hv0 : x.at j < 0
        ·have HStop := mkStop (by rw [HCan.out]; simp; omega)
         have hv' : decide (x.at j < 0) = true := by simp [hv0]
         clear mkStop
         go_wp2_with fail
         go_quiet (fail)
         go_wp2
         go_ret
         exact ⟨ret_int (by rw [HE.out, HStop.out]; rfl), below_next hB (below_next hb (below_draws (Below.refl _ _) _))⟩
        ·have hv' : decide (x.at j < 0) = false := by simp; omega
         by_cases hvM : M ≤ x.at j
         ·have HStop := mkStop (by rw [HCan.out]; simp; omega)
          have hvM' : decide (M ≤ x.at j) = true := by simp [hvM]
          clear mkStop
          go_wp2_with fail
          refine wp_region_noPanic ?_
          refine wp_region_held_drew (S := (fun u => u.cell? ⟨w.heap.size + 1 + 1 + 1 + 1, j, none⟩ = some (.int .i64 (x.at j)) ∧ u.cell? ⟨w.heap.size + 1 + 1, j, none⟩ = some (.int .i64 (tr (y : Int))) ∧ u.cell? ⟨w.heap.size, 0, none⟩ = some (.int .i64 p.vars) ∧ u.cell? ⟨w.heap.size, 1, none⟩ = some (.int .i64 p.atoms) ∧ u.cell? ⟨w.heap.size, 2, none⟩ = some (.int .i64 p.locks) ∧ u.cell? ⟨w.heap.size, 3, none⟩ = some (.slice ca p.chans.length ccap) ∧ u.cell? ⟨w.heap.size, 4, none⟩ = some (.int .i64 p.groups) ∧ u.cell? ⟨w.heap.size, 5, none⟩ = some (.int .i64 p.onces) ∧ u.cell? ⟨w.heap.size, 6, none⟩ = some (.slice ta p.threads.length tcap))) (by kernel_rfl) ⟨hnj, hrj, p0, p1, p2, p3, p4, p5, p6⟩ (fun hHeld => ?_)
          refine wpAnyH_take (i := 0) (v := ?va1) rfl (by kernel_rfl) (by kernel_rfl) (by kernel_rfl) (fun _ _ _ h => h) (Or.inl ⟨by rfl, ?hy1⟩) (by assumption) ?rest1
          case hy1 => (intro w' hSw; (try dsimp only at hSw); go_simp; try with_reducible rfl)
          simp only [Act.put, zz0, zz1, zz2, zz3, zz4, zz5]
          refine wpAnyH_take (i := 1) (v := ?va2) rfl (by kernel_rfl) (by kernel_rfl) (by kernel_rfl) (fun _ _ _ h => h) (Or.inl ⟨by rfl, ?hy2⟩) (by assumption) ?rest2
          case hy2 => (intro w' hSw; (try dsimp only at hSw); go_simp; try with_reducible rfl)
          simp only [Act.put, zz0, zz1, zz2, zz3, zz4, zz5]
          refine wpAnyH_take (i := 2) (v := ?va3) rfl (by kernel_rfl) (by kernel_rfl) (by kernel_rfl) (fun _ _ _ h => h) (Or.inl ⟨by rfl, ?hy3⟩) (by assumption) ?rest3
          case hy3 => (intro w' hSw; (try dsimp only at hSw); go_simp; try with_reducible rfl)
          simp only [Act.put, zz0, zz1, zz2, zz3, zz4, zz5]
          refine wpAnyH_take (i := 3) (v := ?va4) rfl (by kernel_rfl) (by kernel_rfl) (by kernel_rfl) (fun _ _ _ h => h) (Or.inl ⟨by rfl, ?hy4⟩) (by assumption) ?rest4
          case hy4 => (intro w' hSw; (try dsimp only at hSw); go_simp; try with_reducible rfl)
          simp only [Act.put, zz0, zz1, zz2, zz3, zz4, zz5]
          refine wpAnyH_take (i := 4) (v := ?va5) rfl (by kernel_rfl) (by kernel_rfl) (by kernel_rfl) (fun _ _ _ h => h) (Or.inl ⟨by rfl, ?hy5⟩) (by assumption) ?rest5
          case hy5 => (intro w' hSw; (try dsimp only at hSw); go_simp; try with_reducible rfl)
          simp only [Act.put, zz0, zz1, zz2, zz3, zz4, zz5]
          refine wpAnyH_take (i := 5) (v := ?va6) rfl (by kernel_rfl) (by kernel_rfl) (by kernel_rfl) (fun _ _ _ h => h) (Or.inl ⟨by rfl, ?hy6⟩) (by assumption) ?rest6
          case hy6 => (intro w' hSw; (try dsimp only at hSw); go_simp; try with_reducible rfl)
          simp only [Act.put, zz0, zz1, zz2, zz3, zz4, zz5]
          refine wpAnyH_take (i := 6) (v := ?va7) rfl (by kernel_rfl) (by kernel_rfl) (by kernel_rfl) (fun _ _ _ h => h) (Or.inl ⟨by rfl, ?hy7⟩) (by assumption) ?rest7
          case hy7 => (intro w' hSw; (try dsimp only at hSw); go_simp; try with_reducible rfl)
          simp only [Act.put, zz0, zz1, zz2, zz3, zz4, zz5]
          refine wpAnyH_take (i := 7) (v := ?va8) rfl (by kernel_rfl) (by kernel_rfl) (by kernel_rfl) (fun _ _ _ h => h) (Or.inl ⟨by rfl, ?hy8⟩) (by assumption) ?rest8
          case hy8 => (intro w' hSw; (try dsimp only at hSw); go_simp; try with_reducible rfl)
          simp only [Act.put, zz0, zz1, zz2, zz3, zz4, zz5]
          refine wpAnyH_take (i := 8) (v := ?va9) rfl (by kernel_rfl) (by kernel_rfl) (by kernel_rfl) (fun _ _ _ h => h) (Or.inl ⟨by rfl, ?hy9⟩) (by assumption) ?rest9
          case hy9 => (intro w' hSw; (try dsimp only at hSw); go_simp; try with_reducible rfl)
          simp only [Act.put, zz0, zz1, zz2, zz3, zz4, zz5]
          refine wpAnyH_take (i := 9) (v := ?va10) rfl (by kernel_rfl) (by kernel_rfl) (by kernel_rfl) (fun _ _ _ h => h) (Or.inl ⟨by rfl, ?hy10⟩) (by assumption) ?rest10
          case hy10 => (intro w' hSw; (try dsimp only at hSw); go_simp; try with_reducible rfl)
          simp only [Act.put, zz0, zz1, zz2, zz3, zz4, zz5]
          refine wpAnyH_take (i := 10) (v := ?va11) rfl (by kernel_rfl) (by kernel_rfl) (by kernel_rfl) (fun _ _ _ h => h) (Or.inl ⟨by rfl, ?hy11⟩) (by assumption) ?rest11
          case hy11 => (intro w' hSw; (try dsimp only at hSw); go_simp; try with_reducible rfl)
          simp only [Act.put, zz0, zz1, zz2, zz3, zz4, zz5]
          refine wpAnyH_take (i := 11) (v := ?va12) rfl (by kernel_rfl) (by kernel_rfl) (by kernel_rfl) (fun _ _ _ h => h) (Or.inl ⟨by rfl, ?hy12⟩) (by assumption) ?rest12
          case hy12 => (intro w' hSw; (try dsimp only at hSw); go_simp; try with_reducible rfl)
          simp only [Act.put, zz0, zz1, zz2, zz3, zz4, zz5]
          refine wpAnyH_take (i := 12) (v := ?va13) rfl (by kernel_rfl) (by kernel_rfl) (by kernel_rfl) (fun _ _ _ h => h) (Or.inl ⟨by rfl, ?hy13⟩) (by assumption) ?rest13
          case hy13 => (intro w' hSw; (try dsimp only at hSw); go_simp; try with_reducible rfl)
          simp only [Act.put, zz0, zz1, zz2, zz3, zz4, zz5]
          refine wpAnyH_take (i := 13) (v := ?va14) rfl (by kernel_rfl) (by kernel_rfl) (by kernel_rfl) (fun _ _ _ h => h) (Or.inl ⟨by rfl, ?hy14⟩) (by assumption) ?rest14
          case hy14 => (intro w' hSw; (try dsimp only at hSw); go_simp; try with_reducible rfl)
          simp only [Act.put, zz0, zz1, zz2, zz3, zz4, zz5]
          refine wpAnyH_take (i := 14) (v := ?va15) rfl (by kernel_rfl) (by kernel_rfl) (by kernel_rfl) (fun _ _ _ h => h) (Or.inl ⟨by rfl, ?hy15⟩) (by assumption) ?rest15
          case hy15 => (intro w' hSw; (try dsimp only at hSw); go_simp; try with_reducible rfl)
          simp only [Act.put, zz0, zz1, zz2, zz3, zz4, zz5]
          refine wpAnyH_take (i := 15) (v := ?va16) rfl (by kernel_rfl) (by kernel_rfl) (by kernel_rfl) (fun _ _ _ h => h) (Or.inl ⟨by rfl, ?hy16⟩) (by assumption) ?rest16
          case hy16 => (intro w' hSw; (try dsimp only at hSw); go_simp; try with_reducible rfl)
          simp only [Act.put, zz0, zz1, zz2, zz3, zz4, zz5]
          refine wpAnyH_ready (rs := [16]) (by kernel_rfl) (by simp) ?_
          refine AllReadyH.cons rfl (fun K hK => ?_) AllReadyH.nil
          go_simp
          refine (HMany.out _).mono ?_
          rintro e w3 ⟨rfl, hB3⟩
          refine hK.out _ _ (keepI9 hHeld hB3) (fun hHeld2 => ?_)
          clear hK K hHeld
          try simp only [Act.put, zz0, zz1, zz2, zz3, zz4, zz5]
          refine wpAnyH_take (i := 17) (v := ?va17) rfl (by kernel_rfl) (by kernel_rfl) (by kernel_rfl) (fun _ _ _ h => h) (Or.inl ⟨by rfl, ?hy17⟩) (by assumption) ?rest17
          case hy17 => (intro w' hSw; (try dsimp only at hSw); go_simp; try with_reducible rfl)
          simp only [Act.put, zz0, zz1, zz2, zz3, zz4, zz5]
          refine wpAnyH_take (i := 18) (v := ?va18) rfl (by kernel_rfl) (by kernel_rfl) (by kernel_rfl) (fun _ _ _ h => h) (Or.inl ⟨by rfl, ?hy18⟩) (by assumption) ?rest18
          case hy18 => (intro w' hSw; (try dsimp only at hSw); go_simp; try with_reducible rfl)
          simp only [Act.put, zz0, zz1, zz2, zz3, zz4, zz5]
          refine wpAnyH_take (i := 19) (v := ?va19) rfl (by kernel_rfl) (by kernel_rfl) (by kernel_rfl) (fun _ _ _ h => h) (Or.inl ⟨by rfl, ?hy19⟩) (by assumption) ?rest19
          case hy19 => (intro w' hSw; (try dsimp only at hSw); go_simp; try with_reducible rfl)
          simp only [Act.put, zz0, zz1, zz2, zz3, zz4, zz5]
          refine wpAnyH_take (i := 20) (v := undef) rfl (by kernel_rfl) (by kernel_rfl) (by kernel_rfl) (fun _ _ _ h => h) (Or.inr ⟨by rfl, rfl⟩) (by assumption) ?_
          simp only [Act.put, zz0, zz1, zz2, zz3, zz4, zz5]
          refine wpAnyH_take (i := 21) (v := undef) rfl (by kernel_rfl) (by kernel_rfl) (by kernel_rfl) (fun _ _ _ h => h) (Or.inr ⟨by rfl, rfl⟩) (by assumption) ?_
          simp only [Act.put, zz0, zz1, zz2, zz3, zz4, zz5]
          refine wpAnyH_take (i := 22) (v := undef) rfl (by kernel_rfl) (by kernel_rfl) (by kernel_rfl) (fun _ _ _ h => h) (Or.inr ⟨by rfl, rfl⟩) (by assumption) ?_
          simp only [Act.put, zz0, zz1, zz2, zz3, zz4, zz5]
          refine wpAnyH_take (i := 23) (v := undef) rfl (by kernel_rfl) (by kernel_rfl) (by kernel_rfl) (fun _ _ _ h => h) (Or.inr ⟨by rfl, rfl⟩) (by assumption) ?_
          simp only [Act.put, zz0, zz1, zz2, zz3, zz4, zz5]
          refine wpAnyH_take (i := 24) (v := undef) rfl (by kernel_rfl) (by kernel_rfl) (by kernel_rfl) (fun _ _ _ h => h) (Or.inr ⟨by rfl, rfl⟩) (by assumption) ?_
          simp only [Act.put, zz0, zz1, zz2, zz3, zz4, zz5]
          refine wpAnyH_take (i := 25) (v := undef) rfl (by kernel_rfl) (by kernel_rfl) (by kernel_rfl) (fun _ _ _ h => h) (Or.inr ⟨by rfl, rfl⟩) (by assumption) ?_
          simp only [Act.put, zz0, zz1, zz2, zz3, zz4, zz5]
          refine wpAnyH_take (i := 26) (v := undef) rfl (by kernel_rfl) (by kernel_rfl) (by kernel_rfl) (fun _ _ _ h => h) (Or.inr ⟨by rfl, rfl⟩) (by assumption) ?_
          simp only [Act.put, zz0, zz1, zz2, zz3, zz4, zz5]
          refine wpAnyH_take (i := 27) (v := undef) rfl (by kernel_rfl) (by kernel_rfl) (by kernel_rfl) (fun _ _ _ h => h) (Or.inr ⟨by rfl, rfl⟩) (by assumption) ?_
          simp only [Act.put, zz0, zz1, zz2, zz3, zz4, zz5]
          refine wpAnyH_take (i := 28) (v := undef) rfl (by kernel_rfl) (by kernel_rfl) (by kernel_rfl) (fun _ _ _ h => h) (Or.inr ⟨by rfl, rfl⟩) (by assumption) ?_
          simp only [Act.put, zz0, zz1, zz2, zz3, zz4, zz5]
          refine wpAnyH_take (i := 29) (v := undef) rfl (by kernel_rfl) (by kernel_rfl) (by kernel_rfl) (fun _ _ _ h => h) (Or.inr ⟨by rfl, rfl⟩) (by assumption) ?_
          simp only [Act.put, zz0, zz1, zz2, zz3, zz4, zz5]
          refine wpAnyH_take (i := 30) (v := undef) rfl (by kernel_rfl) (by kernel_rfl) (by kernel_rfl) (fun _ _ _ h => h) (Or.inr ⟨by rfl, rfl⟩) (by assumption) ?_
          simp only [Act.put, zz0, zz1, zz2, zz3, zz4, zz5]
          refine wpAnyH_take (i := 31) (v := undef) rfl (by kernel_rfl) (by kernel_rfl) (by kernel_rfl) (fun _ _ _ h => h) (Or.inr ⟨by rfl, rfl⟩) (by assumption) ?_
          simp only [Act.put, zz0, zz1, zz2, zz3, zz4, zz5]
          refine wpAnyH_take (i := 32) (v := ?va20) rfl (by kernel_rfl) (by kernel_rfl) (by kernel_rfl) (fun _ _ _ h => h) (Or.inl ⟨by rfl, ?hy20⟩) (by assumption) ?rest20
          case hy20 => (intro w' hSw; (try dsimp only at hSw); go_simp; try with_reducible rfl)
          simp only [Act.put, zz0, zz1, zz2, zz3, zz4, zz5]
          refine wpAnyH_done (by kernel_rfl) ?_ _
          refine NoPanic.normal ?_
          go_wp2
          go_ret
          exact ⟨ret_int (by rw [HE.out, HStop.out]; rfl), below_next hB (below_next hb (show Below wr.heap.size wr w3 from ⟨hB3.os, hB3.tape, hB3.output, hB3.size, hB3.block⟩))⟩
         ·have hvM' : decide (M ≤ x.at j) = false := by simp; omega
          by_cases hy5 : y = 5 ∧ x.at j = 0
          ·have HStop := mkStop (by rw [HCan.out]; simp [hy5.1, hy5.2])
           have h6' : (tr (y : Int) == 6) = true := by rw [h6]; simp [hy5.1]
           have hx0 : (x.at j == 0) = true := by simp [hy5.2]
           clear mkStop h6 hy5
           go_wp2_with fail
           first
            | (go_region_held3 (fun u => u.cell? ⟨w.heap.size + 1 + 1 + 1 + 1, j, none⟩ = some (.int .i64 (x.at j)) ∧ u.cell? ⟨w.heap.size + 1 + 1, j, none⟩ = some (.int .i64 (tr (y : Int))) ∧ u.cell? ⟨w.heap.size, 0, none⟩ = some (.int .i64 p.vars) ∧ u.cell? ⟨w.heap.size, 1, none⟩ = some (.int .i64 p.atoms) ∧ u.cell? ⟨w.heap.size, 2, none⟩ = some (.int .i64 p.locks) ∧ u.cell? ⟨w.heap.size, 3, none⟩ = some (.slice ca p.chans.length ccap) ∧ u.cell? ⟨w.heap.size, 4, none⟩ = some (.int .i64 p.groups) ∧ u.cell? ⟨w.heap.size, 5, none⟩ = some (.int .i64 p.onces) ∧ u.cell? ⟨w.heap.size, 6, none⟩ = some (.slice ta p.threads.length tcap)) (first | exact ⟨hnj, hrj, p0, p1, p2, p3, p4, p5, p6⟩ | exact keepI9 (by assumption) hB3 |  assumption)
            (first
             | (go_at_call 101; refine (HMany.out _).mono ?_; rintro e w3 ⟨rfl, hB3⟩)))
            | fail
           go_wp2
           go_ret
           exact ⟨ret_int (by rw [HE.out, HStop.out]; rfl), below_next hB (below_next hb (show Below wr.heap.size wr w3 from ⟨hB3.os, hB3.tape, hB3.output, hB3.size, hB3.block⟩))⟩
          ·have HN := Lib.hid (show fitB (canL p n) r x (j + 1) = true by
            rw [HFit.out, HCan.out]
            by_cases e5 : y = 5
            ·have : x.at j ≠ 0 := fun e => hy5 ⟨e5, e⟩
             simp [this]; omega
            ·simp [e5]; omega)
           clear mkStop
           by_cases e5 : y = 5
           ·have h6' : (tr (y : Int) == 6) = true := by rw [h6]; simp [e5]
            have hx0 : (x.at j == 0) = false := by
             have : x.at j ≠ 0 := fun e => hy5 ⟨e5, e⟩
             simp [this]
            clear h6 hy5 e5
            go_wp2_with fail
            first
             | (go_region_held3 (fun u => u.cell? ⟨w.heap.size + 1 + 1 + 1 + 1, j, none⟩ = some (.int .i64 (x.at j)) ∧ u.cell? ⟨w.heap.size + 1 + 1, j, none⟩ = some (.int .i64 (tr (y : Int))) ∧ u.cell? ⟨w.heap.size, 0, none⟩ = some (.int .i64 p.vars) ∧ u.cell? ⟨w.heap.size, 1, none⟩ = some (.int .i64 p.atoms) ∧ u.cell? ⟨w.heap.size, 2, none⟩ = some (.int .i64 p.locks) ∧ u.cell? ⟨w.heap.size, 3, none⟩ = some (.slice ca p.chans.length ccap) ∧ u.cell? ⟨w.heap.size, 4, none⟩ = some (.int .i64 p.groups) ∧ u.cell? ⟨w.heap.size, 5, none⟩ = some (.int .i64 p.onces) ∧ u.cell? ⟨w.heap.size, 6, none⟩ = some (.slice ta p.threads.length tcap)) (first | exact ⟨hnj, hrj, p0, p1, p2, p3, p4, p5, p6⟩ | exact keepI9 (by assumption) hB3 |  assumption)
             (first
              | (go_at_call 101; refine (HMany.out _).mono ?_; rintro e w3 ⟨rfl, hB3⟩)))
             | fail
            go_wp2
            go_roundw
            case rel => exact ⟨j + 1, by omega, by go_num, HN.out, below_next hb (show Below wr.heap.size wr w3 from ⟨hB3.os, hB3.tape, hB3.output, hB3.size, hB3.block⟩)⟩
            case measure => simp [intOf]; omega
           ·have h6' : (tr (y : Int) == 6) = false := by rw [h6]; simp [e5]
            clear h6 hy5 e5
            go_wp2_with fail
            refine wp_region_noPanic ?_
            refine wp_region_held_drew (S := (fun u => u.cell? ⟨w.heap.size + 1 + 1 + 1 + 1, j, none⟩ = some (.int .i64 (x.at j)) ∧ u.cell? ⟨w.heap.size + 1 + 1, j, none⟩ = some (.int .i64 (tr (y : Int))) ∧ u.cell? ⟨w.heap.size, 0, none⟩ = some (.int .i64 p.vars) ∧ u.cell? ⟨w.heap.size, 1, none⟩ = some (.int .i64 p.atoms) ∧ u.cell? ⟨w.heap.size, 2, none⟩ = some (.int .i64 p.locks) ∧ u.cell? ⟨w.heap.size, 3, none⟩ = some (.slice ca p.chans.length ccap) ∧ u.cell? ⟨w.heap.size, 4, none⟩ = some (.int .i64 p.groups) ∧ u.cell? ⟨w.heap.size, 5, none⟩ = some (.int .i64 p.onces) ∧ u.cell? ⟨w.heap.size, 6, none⟩ = some (.slice ta p.threads.length tcap))) (by kernel_rfl) ⟨hnj, hrj, p0, p1, p2, p3, p4, p5, p6⟩ (fun hHeld => ?_)
            refine wpAnyH_take (i := 0) (v := ?va21) rfl (by kernel_rfl) (by kernel_rfl) (by kernel_rfl) (fun _ _ _ h => h) (Or.inl ⟨by rfl, ?hy21⟩) (by assumption) ?rest21
            case hy21 => (intro w' hSw; (try dsimp only at hSw); go_simp; try with_reducible rfl)
            simp only [Act.put, zz0, zz1, zz2, zz3, zz4, zz5]
            refine wpAnyH_take (i := 1) (v := ?va22) rfl (by kernel_rfl) (by kernel_rfl) (by kernel_rfl) (fun _ _ _ h => h) (Or.inl ⟨by rfl, ?hy22⟩) (by assumption) ?rest22
            case hy22 => (intro w' hSw; (try dsimp only at hSw); go_simp; try with_reducible rfl)
            simp only [Act.put, zz0, zz1, zz2, zz3, zz4, zz5]
            refine wpAnyH_take (i := 2) (v := ?va23) rfl (by kernel_rfl) (by kernel_rfl) (by kernel_rfl) (fun _ _ _ h => h) (Or.inl ⟨by rfl, ?hy23⟩) (by assumption) ?rest23
            case hy23 => (intro w' hSw; (try dsimp only at hSw); go_simp; try with_reducible rfl)
            simp only [Act.put, zz0, zz1, zz2, zz3, zz4, zz5]
            refine wpAnyH_take (i := 3) (v := ?va24) rfl (by kernel_rfl) (by kernel_rfl) (by kernel_rfl) (fun _ _ _ h => h) (Or.inl ⟨by rfl, ?hy24⟩) (by assumption) ?rest24
            case hy24 => (intro w' hSw; (try dsimp only at hSw); go_simp; try with_reducible rfl)
            simp only [Act.put, zz0, zz1, zz2, zz3, zz4, zz5]
            refine wpAnyH_take (i := 4) (v := ?va25) rfl (by kernel_rfl) (by kernel_rfl) (by kernel_rfl) (fun _ _ _ h => h) (Or.inl ⟨by rfl, ?hy25⟩) (by assumption) ?rest25
            case hy25 => (intro w' hSw; (try dsimp only at hSw); go_simp; try with_reducible rfl)
            simp only [Act.put, zz0, zz1, zz2, zz3, zz4, zz5]
            refine wpAnyH_take (i := 5) (v := ?va26) rfl (by kernel_rfl) (by kernel_rfl) (by kernel_rfl) (fun _ _ _ h => h) (Or.inl ⟨by rfl, ?hy26⟩) (by assumption) ?rest26
            case hy26 => (intro w' hSw; (try dsimp only at hSw); go_simp; try with_reducible rfl)
            simp only [Act.put, zz0, zz1, zz2, zz3, zz4, zz5]
            refine wpAnyH_take (i := 6) (v := ?va27) rfl (by kernel_rfl) (by kernel_rfl) (by kernel_rfl) (fun _ _ _ h => h) (Or.inl ⟨by rfl, ?hy27⟩) (by assumption) ?rest27
            case hy27 => (intro w' hSw; (try dsimp only at hSw); go_simp; try with_reducible rfl)
            simp only [Act.put, zz0, zz1, zz2, zz3, zz4, zz5]
            refine wpAnyH_take (i := 7) (v := ?va28) rfl (by kernel_rfl) (by kernel_rfl) (by kernel_rfl) (fun _ _ _ h => h) (Or.inl ⟨by rfl, ?hy28⟩) (by assumption) ?rest28
            case hy28 => (intro w' hSw; (try dsimp only at hSw); go_simp; try with_reducible rfl)
            simp only [Act.put, zz0, zz1, zz2, zz3, zz4, zz5]
            refine wpAnyH_take (i := 8) (v := ?va29) rfl (by kernel_rfl) (by kernel_rfl) (by kernel_rfl) (fun _ _ _ h => h) (Or.inl ⟨by rfl, ?hy29⟩) (by assumption) ?rest29
            case hy29 => (intro w' hSw; (try dsimp only at hSw); go_simp; try with_reducible rfl)
            simp only [Act.put, zz0, zz1, zz2, zz3, zz4, zz5]
            refine wpAnyH_take (i := 9) (v := ?va30) rfl (by kernel_rfl) (by kernel_rfl) (by kernel_rfl) (fun _ _ _ h => h) (Or.inl ⟨by rfl, ?hy30⟩) (by assumption) ?rest30
            case hy30 => (intro w' hSw; (try dsimp only at hSw); go_simp; try with_reducible rfl)
            simp only [Act.put, zz0, zz1, zz2, zz3, zz4, zz5]
            refine wpAnyH_take (i := 10) (v := ?va31) rfl (by kernel_rfl) (by kernel_rfl) (by kernel_rfl) (fun _ _ _ h => h) (Or.inl ⟨by rfl, ?hy31⟩) (by assumption) ?rest31
            case hy31 => (intro w' hSw; (try dsimp only at hSw); go_simp; try with_reducible rfl)
            simp only [Act.put, zz0, zz1, zz2, zz3, zz4, zz5]
            refine wpAnyH_take (i := 11) (v := ?va32) rfl (by kernel_rfl) (by kernel_rfl) (by kernel_rfl) (fun _ _ _ h => h) (Or.inl ⟨by rfl, ?hy32⟩) (by assumption) ?rest32
            case hy32 => (intro w' hSw; (try dsimp only at hSw); go_simp; try with_reducible rfl)
            simp only [Act.put, zz0, zz1, zz2, zz3, zz4, zz5]
            refine wpAnyH_take (i := 12) (v := ?va33) rfl (by kernel_rfl) (by kernel_rfl) (by kernel_rfl) (fun _ _ _ h => h) (Or.inl ⟨by rfl, ?hy33⟩) (by assumption) ?rest33
            case hy33 => (intro w' hSw; (try dsimp only at hSw); go_simp; try with_reducible rfl)
            simp only [Act.put, zz0, zz1, zz2, zz3, zz4, zz5]
            refine wpAnyH_take (i := 13) (v := ?va34) rfl (by kernel_rfl) (by kernel_rfl) (by kernel_rfl) (fun _ _ _ h => h) (Or.inl ⟨by rfl, ?hy34⟩) (by assumption) ?rest34
            case hy34 => (intro w' hSw; (try dsimp only at hSw); go_simp; try with_reducible rfl)
            simp only [Act.put, zz0, zz1, zz2, zz3, zz4, zz5]
            refine wpAnyH_take (i := 14) (v := ?va35) rfl (by kernel_rfl) (by kernel_rfl) (by kernel_rfl) (fun _ _ _ h => h) (Or.inl ⟨by rfl, ?hy35⟩) (by assumption) ?rest35
            case hy35 => (intro w' hSw; (try dsimp only at hSw); go_simp; try with_reducible rfl)
            simp only [Act.put, zz0, zz1, zz2, zz3, zz4, zz5]
            refine wpAnyH_take (i := 15) (v := ?va36) rfl (by kernel_rfl) (by kernel_rfl) (by kernel_rfl) (fun _ _ _ h => h) (Or.inl ⟨by rfl, ?hy36⟩) (by assumption) ?rest36
            case hy36 => (intro w' hSw; (try dsimp only at hSw); go_simp; try with_reducible rfl)
            simp only [Act.put, zz0, zz1, zz2, zz3, zz4, zz5]
            refine wpAnyH_ready (rs := [16]) (by kernel_rfl) (by simp) ?_
            refine AllReadyH.cons rfl (fun K hK => ?_) AllReadyH.nil
            go_simp
            refine (HMany.out _).mono ?_
            rintro e w3 ⟨rfl, hB3⟩
            refine hK.out _ _ (keepI9 hHeld hB3) (fun hHeld2 => ?_)
            clear hK K hHeld
            try simp only [Act.put, zz0, zz1, zz2, zz3, zz4, zz5]
            refine wpAnyH_take (i := 17) (v := ?va37) rfl (by kernel_rfl) (by kernel_rfl) (by kernel_rfl) (fun _ _ _ h => h) (Or.inl ⟨by rfl, ?hy37⟩) (by assumption) ?rest37
            case hy37 => (intro w' hSw; (try dsimp only at hSw); go_simp; try with_reducible rfl)
            simp only [Act.put, zz0, zz1, zz2, zz3, zz4, zz5]
            refine wpAnyH_take (i := 18) (v := ?va38) rfl (by kernel_rfl) (by kernel_rfl) (by kernel_rfl) (fun _ _ _ h => h) (Or.inl ⟨by rfl, ?hy38⟩) (by assumption) ?rest38
            case hy38 => (intro w' hSw; (try dsimp only at hSw); go_simp; try with_reducible rfl)
            simp only [Act.put, zz0, zz1, zz2, zz3, zz4, zz5]
            refine wpAnyH_take (i := 19) (v := ?va39) rfl (by kernel_rfl) (by kernel_rfl) (by kernel_rfl) (fun _ _ _ h => h) (Or.inl ⟨by rfl, ?hy39⟩) (by assumption) ?rest39
            case hy39 => (intro w' hSw; (try dsimp only at hSw); go_simp; try with_reducible rfl)
            simp only [Act.put, zz0, zz1, zz2, zz3, zz4, zz5]
            refine wpAnyH_take (i := 20) (v := ?va40) rfl (by kernel_rfl) (by kernel_rfl) (by kernel_rfl) (fun _ _ _ h => h) (Or.inl ⟨by rfl, ?hy40⟩) (by assumption) ?rest40
            case hy40 => (intro w' hSw; (try dsimp only at hSw); go_simp; try with_reducible rfl)
            simp only [Act.put, zz0, zz1, zz2, zz3, zz4, zz5]
            refine wpAnyH_take (i := 21) (v := ?va41) rfl (by kernel_rfl) (by kernel_rfl) (by kernel_rfl) (fun _ _ _ h => h) (Or.inl ⟨by rfl, ?hy41⟩) (by assumption) ?rest41
            case hy41 => (intro w' hSw; (try dsimp only at hSw); go_simp; try with_reducible rfl)
            simp only [Act.put, zz0, zz1, zz2, zz3, zz4, zz5]
            refine wpAnyH_take (i := 22) (v := ?va42) rfl (by kernel_rfl) (by kernel_rfl) (by kernel_rfl) (fun _ _ _ h => h) (Or.inl ⟨by rfl, ?hy42⟩) (by assumption) ?rest42
            case hy42 => (intro w' hSw; (try dsimp only at hSw); go_simp; try with_reducible rfl)
            simp only [Act.put, zz0, zz1, zz2, zz3, zz4, zz5]
            refine wpAnyH_take (i := 23) (v := ?va43) rfl (by kernel_rfl) (by kernel_rfl) (by kernel_rfl) (fun _ _ _ h => h) (Or.inl ⟨by rfl, ?hy43⟩) (by assumption) ?rest43
            case hy43 => (intro w' hSw; (try dsimp only at hSw); go_simp; try with_reducible rfl)
            simp only [Act.put, zz0, zz1, zz2, zz3, zz4, zz5]
            refine wpAnyH_take (i := 24) (v := ?va44) rfl (by kernel_rfl) (by kernel_rfl) (by kernel_rfl) (fun _ _ _ h => h) (Or.inl ⟨by rfl, ?hy44⟩) (by assumption) ?rest44
            case hy44 => (intro w' hSw; (try dsimp only at hSw); go_simp; try with_reducible rfl)
            simp only [Act.put, zz0, zz1, zz2, zz3, zz4, zz5]
            refine wpAnyH_take (i := 25) (v := ?va45) rfl (by kernel_rfl) (by kernel_rfl) (by kernel_rfl) (fun _ _ _ h => h) (Or.inl ⟨by rfl, ?hy45⟩) (by assumption) ?rest45
            case hy45 => (intro w' hSw; (try dsimp only at hSw); go_simp; try with_reducible rfl)
            simp only [Act.put, zz0, zz1, zz2, zz3, zz4, zz5]
            refine wpAnyH_take (i := 26) (v := undef) rfl (by kernel_rfl) (by kernel_rfl) (by kernel_rfl) (fun _ _ _ h => h) (Or.inr ⟨by rfl, rfl⟩) (by assumption) ?_
            simp only [Act.put, zz0, zz1, zz2, zz3, zz4, zz5]
            refine wpAnyH_take (i := 27) (v := undef) rfl (by kernel_rfl) (by kernel_rfl) (by kernel_rfl) (fun _ _ _ h => h) (Or.inr ⟨by rfl, rfl⟩) (by assumption) ?_
            simp only [Act.put, zz0, zz1, zz2, zz3, zz4, zz5]
            refine wpAnyH_take (i := 28) (v := undef) rfl (by kernel_rfl) (by kernel_rfl) (by kernel_rfl) (fun _ _ _ h => h) (Or.inr ⟨by rfl, rfl⟩) (by assumption) ?_
            simp only [Act.put, zz0, zz1, zz2, zz3, zz4, zz5]
            refine wpAnyH_take (i := 29) (v := undef) rfl (by kernel_rfl) (by kernel_rfl) (by kernel_rfl) (fun _ _ _ h => h) (Or.inr ⟨by rfl, rfl⟩) (by assumption) ?_
            simp only [Act.put, zz0, zz1, zz2, zz3, zz4, zz5]
            refine wpAnyH_take (i := 30) (v := undef) rfl (by kernel_rfl) (by kernel_rfl) (by kernel_rfl) (fun _ _ _ h => h) (Or.inr ⟨by rfl, rfl⟩) (by assumption) ?_
            simp only [Act.put, zz0, zz1, zz2, zz3, zz4, zz5]
            refine wpAnyH_take (i := 31) (v := ?va46) rfl (by kernel_rfl) (by kernel_rfl) (by kernel_rfl) (fun _ _ _ h => h) (Or.inl ⟨by rfl, ?hy46⟩) (by assumption) ?rest46
            case hy46 => (intro w' hSw; (try dsimp only at hSw); go_simp; try with_reducible rfl)
            simp only [Act.put, zz0, zz1, zz2, zz3, zz4, zz5]
            refine wpAnyH_take (i := 32) (v := ?va47) rfl (by kernel_rfl) (by kernel_rfl) (by kernel_rfl) (fun _ _ _ h => h) (Or.inl ⟨by rfl, ?hy47⟩) (by assumption) ?rest47
            case hy47 => (intro w' hSw; (try dsimp only at hSw); go_simp; try with_reducible rfl)
            simp only [Act.put, zz0, zz1, zz2, zz3, zz4, zz5]
            refine wpAnyH_done (by kernel_rfl) ?_ _
            refine NoPanic.normal ?_
            go_wp2
            go_roundw
            case rel => exact ⟨j + 1, by omega, by go_num, HN.out, below_next hb (show Below wr.heap.size wr w3 from ⟨hB3.os, hB3.tape, hB3.output, hB3.size, hB3.block⟩)⟩
            case measure => simp [intOf]; omega
     ·obtain rfl : j = 3 := by omega
      go_wp2
      go_ret
      exact ⟨ret_int (by rw [HE.out, HF.out]; rfl), below_next hB hb⟩
 ·have hd : decide ((27 : Int) < (x.op : Int)) = true := by simp; omega
  have HN := Lib.hid (HU.out (by rw [decide_eq_false hop, Bool.and_false]))
  go_loop [9] (fun i => i = .int .i64 0) (fun _ => 0)
  case atStart => rfl
  case round =>
   subst hrel
   go_wp2
   go_ret
   exact ⟨ret_int HN.out.symm, hB⟩
def bad1B (p : ProgD) : Bool := decide (p.vars < 0) || decide (8 < p.vars) || decide (4 < (p.chans.length : Int)) || decide ((p.threads.length : Int) < 1) || decide (6 < (p.threads.length : Int))
def outB (v : Int) : Bool := decide (v < 0) || decide (4 < v)
def ProgD.num (p : ProgD) (k : Nat) : Int := if k = 0 then p.atoms else if k = 1 then p.locks else if k = 2 then p.groups else p.onces
def badB (p : ProgD) : Nat → Bool
 | 0 => bad1B p
 | k + 1 => badB p k || outB (p.num k)
def badL (p : ProgD) (k : Nat) : Bool := badB p 4 || (p.threads.take k).any fun c => decide (60 < (c.length : Int))
theorem badL_more {p : ProgD} {k : Nat} {c : List InsD} (h : p.threads[k]? = some c) : badL p (k + 1) = (badL p k || decide (60 < (c.length : Int))) := by
 unfold badL
 have e : p.threads.take (k + 1) = p.threads.take k ++ [c] := by rw [List.take_add_one, h]; rfl
 rw [e, List.any_append]
 simp [Bool.or_assoc]
theorem badL_all (p : ProgD) : badL p p.threads.length = !sizesB p := by
 unfold badL
 rw [List.take_length]
 have h1 : (p.threads.any fun c => decide (60 < (c.length : Int))) = !longB p.threads := by
  unfold longB
  rw [List.not_all_eq_any_not]
  congr 1
  funext c
  by_cases h : c.length ≤ 60
  ·simp [h]; omega
  ·simp [h]; omega
 have h2 : badB p 4 = !numsB p := by
  unfold numsB
  show (bad1B p || outB p.atoms || outB p.locks || outB p.groups || outB p.onces) = _
  unfold bad1B outB wiB
  rw [Bool.eq_iff_iff]
  simp only [Bool.or_eq_true, decide_eq_true_eq, Bool.not_eq_true', Bool.and_eq_false_iff, decide_eq_false_iff_not]
  omega
 rw [h1, h2]
 unfold sizesB
 rw [Bool.not_and, Bool.or_comm]
theorem sound_long {p : ProgD} (h : sizesB p = false) : soundE p = 3 := by unfold soundE; rw [h]; rfl
theorem sound_caps {p : ProgD} (h : sizesB p = true) (h2 : capsB p.chans = false) : soundE p = 21 := by unfold soundE; rw [h, h2]; rfl
theorem sound_rest {p : ProgD} (h : sizesB p = true) (h2 : capsB p.chans = true) : soundE p = threadsE p := by
 unfold soundE; rw [h, h2]
 show firstE [0, 0, _] = _
 show firstE [threadsE p] = _
 unfold firstE firstE; split <;> simp_all
theorem num4_cell {w : World} {g : Nat} {p : ProgD} {t : TypeId} {fr : Nat × Nat} (h : w.heap[g]? = some (.cells #[.int .i64 p.atoms, .int .i64 p.locks, .int .i64 p.groups, .int .i64 p.onces] t fr)) (k : Nat) (hk : k < 4) :
  w.cell? ⟨g, k, none⟩ = some (.int .i64 (p.num k)) := by
 rw [cell_of_row w g k _ _ _ h]
 obtain rfl | rfl | rfl | rfl : k = 0 ∨ k = 1 ∨ k = 2 ∨ k = 3 := by omega
 ·rfl
 ·rfl
 ·rfl
 ·rfl
theorem keep12 {u u' : World} {g b o b' o' : Nat} {c0 c1 c2 c3 c4 c5 c6 t x0 x1 x2 x3 : Value} (h : u.cell? ⟨g, 0, none⟩ = some c0 ∧ u.cell? ⟨g, 1, none⟩ = some c1 ∧ u.cell? ⟨g, 2, none⟩ = some c2 ∧ u.cell? ⟨g, 3, none⟩ = some c3 ∧ u.cell? ⟨g, 4, none⟩ = some c4 ∧ u.cell? ⟨g, 5, none⟩ = some c5 ∧ u.cell? ⟨g, 6, none⟩ = some c6 ∧ u.cell? ⟨b, o, none⟩ = some t ∧ u.cell? ⟨b', o', none⟩ = some x0 ∧ u.cell? ⟨b', o' + 1, none⟩ = some x1 ∧ u.cell? ⟨b', o' + 2, none⟩ = some x2 ∧ u.cell? ⟨b', o' + 3, none⟩ = some x3) (hB : Below u.heap.size u u') : u'.cell? ⟨g, 0, none⟩ = some c0 ∧ u'.cell? ⟨g, 1, none⟩ = some c1 ∧ u'.cell? ⟨g, 2, none⟩ = some c2 ∧ u'.cell? ⟨g, 3, none⟩ = some c3 ∧ u'.cell? ⟨g, 4, none⟩ = some c4 ∧ u'.cell? ⟨g, 5, none⟩ = some c5 ∧ u'.cell? ⟨g, 6, none⟩ = some c6 ∧ u'.cell? ⟨b, o, none⟩ = some t ∧ u'.cell? ⟨b', o', none⟩ = some x0 ∧ u'.cell? ⟨b', o' + 1, none⟩ = some x1 ∧ u'.cell? ⟨b', o' + 2, none⟩ = some x2 ∧ u'.cell? ⟨b', o' + 3, none⟩ = some x3 := by
 obtain ⟨h0, h1, h2, h3, h4, h5, h6, h7, h8, h9, h10, h11⟩ := h
 exact ⟨keepC h0 hB, keepC h1 hB, keepC h2 hB, keepC h3 hB, keepC h4 hB, keepC h5 hB, keepC h6 hB, keepC h7 hB, keepC h8 hB, keepC h9 hB, keepC h10 hB, keepC h11 hB⟩
def RelBad (p : ProgD) (W : World) (b : Value) (w' : World) : Prop := w' = W ∧ b = .bool (bad1B p)
def RelNum (p : ProgD) (b i : Value) : Prop := ∃ k : Nat, k ≤ 4 ∧ i = .int .i64 k ∧ b = .bool (badB p k)
def RelLong (p : ProgD) (b i : Value) : Prop := ∃ k : Nat, k ≤ p.threads.length ∧ i = .int .i64 k ∧ b = .bool (badL p k)
def RelThr (p : ProgD) (W : World) (i : Value) (u : World) : Prop := ∃ k : Nat, k ≤ p.threads.length ∧ i = .int .i64 k ∧ Below W.heap.size W u ∧ ∀ (j : Nat) (c : List InsD), j < k → p.threads[j]? = some c → codeE p c = 0
def RelCode (p : ProgD) (c : List InsD) (W : World) (i : Value) (u : World) : Prop := ∃ k : Nat, k ≤ c.length ∧ i = .int .i64 k ∧ Below W.heap.size W u ∧ ∀ (j : Nat) (x : InsD), j < k → c[j]? = some x → insE p c.length x = 0
theorem refSound_any (p : ProgD) (ca : Option Addr) (ccap : Nat) (ta : Option Addr) (tcap : Nat) (w : World) (hp : ProgIn w w.heap.size p ca ta) :
  Calls Try.prog 55 #[p.val ca ccap ta tcap] w fun e w' => e = .returned (.int .i64 (soundE p)) ∧ Below w.heap.size w w' := by
 have HT := Lib.hid hp.threads
 have HCh := Lib.hid hp.chans
 have htl := hp.tlen
 have hcl := hp.clen
 clear hp
 go_enter Try.func55, Try.ntmps55
 go_upto_region 1 with (fail)
 go_cut [3] (fun b w' => RelBad p (w.alloc (.cells #[.int .i64 p.vars, .int .i64 p.atoms, .int .i64 p.locks, .slice ca p.chans.length ccap, .int .i64 p.groups, .int .i64 p.onces, .slice ta p.threads.length tcap] 28)) b w')
 case first =>
  by_cases h1 : p.vars < 0
  ·have d1 : decide (p.vars < 0) = true := by simp [h1]
   go_wp2
   go_meet
   exact ⟨rfl, congrArg Value.bool (by unfold bad1B; simp [h1])⟩
  ·have d1 : decide (p.vars < 0) = false := by simp; omega
   by_cases h2 : 8 < p.vars
   ·have d2 : decide (8 < p.vars) = true := by simp [h2]
    go_wp2
    go_meet
    exact ⟨rfl, congrArg Value.bool (by unfold bad1B; simp [h2])⟩
   ·have d2 : decide (8 < p.vars) = false := by simp; omega
    by_cases h3 : (4 : Int) < (p.chans.length : Int)
    ·have d3 : decide ((4 : Int) < (p.chans.length : Int)) = true := by simp; omega
     go_wp2
     go_meet
     exact ⟨rfl, congrArg Value.bool (by unfold bad1B; rw [d3]; simp)⟩
    ·have d3 : decide ((4 : Int) < (p.chans.length : Int)) = false := by simp; omega
     by_cases h4 : (p.threads.length : Int) < 1
     ·have d4 : decide ((p.threads.length : Int) < 1) = true := by simp; omega
      go_wp2
      go_meet
      exact ⟨rfl, congrArg Value.bool (by unfold bad1B; rw [d4]; simp)⟩
     ·have d4 : decide ((p.threads.length : Int) < 1) = false := by simp; omega
      by_cases h5 : (6 : Int) < (p.threads.length : Int)
      ·have d5 : decide ((6 : Int) < (p.threads.length : Int)) = true := by simp; omega
       go_wp2
       go_meet
       exact ⟨rfl, congrArg Value.bool (by unfold bad1B; rw [d5]; simp)⟩
      ·have d5 : decide ((6 : Int) < (p.threads.length : Int)) = false := by simp; omega
       go_wp2
       go_meet
       exact ⟨rfl, congrArg Value.bool (by unfold bad1B; rw [d1, d2, d3, d4, d5]; rfl)⟩
 case rest =>
  obtain ⟨rfl, rfl⟩ := hcut
  go_wp2_with fail
  generalize hW : World.alloc (World.alloc w _) _ = W
  have HBx := Lib.hid (show W.heap[w.heap.size]? = some (.cells #[.int .i64 p.vars, .int .i64 p.atoms, .int .i64 p.locks, .slice ca p.chans.length ccap, .int .i64 p.groups, .int .i64 p.onces, .slice ta p.threads.length tcap] 28) by rw [← hW]; exact heap_alloc2_old _ _ _)
  have HNu := Lib.hid (show W.heap[w.heap.size + 1]? = some (.cells #[.int .i64 p.atoms, .int .i64 p.locks, .int .i64 p.groups, .int .i64 p.onces] 3) by rw [← hW]; exact heap_alloc2_new _ _ _)
  have hB : Below w.heap.size w W := by rw [← hW]; exact ((Below.refl _ _).alloc (Nat.le_refl _) _).alloc (by simp) _
  have hWl : w.heap.size < W.heap.size := (Array.getElem?_eq_some_iff.1 HBx.out).1
  clear hW
  go_loop [3, 5] (fun b i => RelNum p b i) (fun _ i => 4 - (intOf i).toNat)
  case atStart => exact ⟨0, Nat.zero_le _, rfl, rfl⟩
  case round =>
   obtain ⟨k, hk, rfl, rfl⟩ := hrel
   by_cases hlt : k < 4
   ·have hc := num4_cell HNu.out k hlt
    have HM : Hid (badB p (k + 1) = (badB p k || outB (p.num k))) := Lib.hid rfl
    generalize badB p k = bk at HM ⊢
    cases bk
    ·by_cases h0 : p.num k < 0
     ·have d0 : decide (p.num k < 0) = true := by simp [h0]
      go_wp2
      go_round
      case rel => exact ⟨k + 1, by omega, by go_num, congrArg Value.bool (by rw [HM.out]; unfold outB; rw [d0]; rfl)⟩
      case measure => simp [intOf]; omega
     ·have d0 : decide (p.num k < 0) = false := by simp; omega
      go_wp2
      go_round
      case rel => exact ⟨k + 1, by omega, by go_num, congrArg Value.bool (by rw [HM.out]; unfold outB; rw [d0]; rfl)⟩
      case measure => simp [intOf]; omega
    ·go_wp2
     go_round
     case rel => exact ⟨k + 1, by omega, by go_num, congrArg Value.bool (by rw [HM.out]; rfl)⟩
     case measure => simp [intOf]; omega
   ·obtain rfl : k = 4 := by omega
    obtain ⟨p0, p1, p2, p3, p4, p5, p6⟩ := cells7' HBx.out
    go_wp2_with fail
    go_loop [3, 6] (fun b i => RelLong p b i) (fun _ i => p.threads.length - (intOf i).toNat)
    case atStart => exact ⟨0, Nat.zero_le _, rfl, congrArg Value.bool (by unfold badL; simp)⟩
    case round =>
     obtain ⟨k, hk, rfl, rfl⟩ := hrel
     by_cases hlt : k < p.threads.length
     ·obtain ⟨c, hc⟩ := at_lt hlt
      have HM := Lib.hid (badL_more hc)
      obtain ⟨b, off, rfl, hb, a', cap', hcell, _⟩ := HT.out k c hc
      have hcell' := (hB.cell (p := ⟨b, off + k, none⟩) hb).trans hcell
      have hlt' : (k : Int) < (p.threads.length : Int) := by omega
      clear hc hcell
      generalize badL p k = bk at HM ⊢
      cases bk
      ·go_wp2
       go_round
       case rel => exact ⟨k + 1, by omega, by go_num, congrArg Value.bool (by rw [HM.out]; rfl)⟩
       case measure => simp [intOf]; omega
      ·go_wp2
       go_round
       case rel => exact ⟨k + 1, by omega, by go_num, congrArg Value.bool (by rw [HM.out]; rfl)⟩
       case measure => simp [intOf]; omega
     ·obtain rfl : k = p.threads.length := by omega
      rw [badL_all p]
      cases hs : sizesB p
      ·have HL := Lib.hid (sound_long hs)
       clear hs
       go_wp2
       go_ret
       exact ⟨ret_int HL.out.symm, hB⟩
      ·have HS := Lib.hid hs
       clear hs
       go_wp2_with fail
       go_loop [7] (fun i => ∃ k : Nat, k ≤ p.chans.length ∧ i = .int .i64 k ∧ Hid (∀ (j : Nat) (y : Int), j < k → p.chans[j]? = some y → wiB y 1 3 = true)) (fun i => p.chans.length - (intOf i).toNat)
       case atStart => exact ⟨0, Nat.zero_le _, rfl, Lib.hid (fun j x hj => by omega)⟩
       case round =>
        obtain ⟨k, hk, rfl, HZ⟩ := hrel
        by_cases hlt : k < p.chans.length
        ·obtain ⟨y, hy⟩ := at_lt hlt
         obtain ⟨b, off, rfl, hb, hcell⟩ := HCh.out k y hy
         have hcell' := (hB.cell (p := ⟨b, off + k, none⟩) hb).trans hcell
         have hlt' : (k : Int) < (p.chans.length : Int) := by omega
         have HE := Lib.hid hy
         clear hy hcell
         by_cases h1 : y < 1
         ·have d1 : decide (y < 1) = true := by simp [h1]
          have HF := Lib.hid (sound_caps HS.out (capsB_no HE.out (wiB_false.2 (by omega))))
          go_wp2
          go_ret
          exact ⟨ret_int HF.out.symm, hB⟩
         ·have d1 : decide (y < 1) = false := by simp; omega
          by_cases h3 : 3 < y
          ·have d3 : decide (3 < y) = true := by simp [h3]
           have HF := Lib.hid (sound_caps HS.out (capsB_no HE.out (wiB_false.2 (by omega))))
           go_wp2
           go_ret
           exact ⟨ret_int HF.out.symm, hB⟩
          ·have d3 : decide (3 < y) = false := by simp; omega
           go_wp2
           go_round
           case rel => exact ⟨k + 1, by omega, by go_num, Lib.hid (fun j z hj hz => by
            by_cases e : j = k
            ·subst e; have := HE.out; rw [this] at hz; cases hz; exact wiB_true.2 (by omega)
            ·exact HZ.out j z (by omega) hz)⟩
           case measure => simp [intOf]; omega
        ·obtain rfl : k = p.chans.length := by omega
         have HR := Lib.hid (sound_rest HS.out (capsB_all fun j y hy => HZ.out j y (List.getElem?_eq_some_iff.1 hy).1 hy))
         have HL60 := Lib.hid (sizes_parts HS.out).2.2.2.2.2.2.2
         have htl6 : p.threads.length ≤ 6 := (sizes_parts HS.out).2.2.2.2.2.2.1.2
         go_wp2_with fail
         go_loopw [8] (fun i u => RelThr p W i u) (fun i _ => p.threads.length - (intOf i).toNat)
         case atStart => exact ⟨0, Nat.zero_le _, rfl, Below.refl _ _, fun j x hj => by omega⟩
         case round =>
          obtain ⟨k, hk, rfl, hb0, hZ0⟩ := hrel
          have HZ0 := Lib.hid hZ0
          clear hZ0
          obtain ⟨p0, p1, p2, p3, p4, p5, p6⟩ := cells7' ((hb0.block _ hWl).trans HBx.out)
          by_cases hlt : k < p.threads.length
          ·obtain ⟨c, hc⟩ := at_lt hlt
           obtain ⟨b, off, rfl, hb, a', cap', hcell, hcode⟩ := HT.out k c hc
           have hBw : Below w.heap.size w wr := hB.trans (hb0.mono (by omega))
           have hcell' := (hBw.cell (p := ⟨b, off + k, none⟩) hb).trans hcell
           have HCell := Lib.hid hcell
           have HCode := Lib.hid hcode
           have HE := Lib.hid hc
           have hcl60 : c.length ≤ 60 := HL60.out c (List.mem_of_getElem? hc)
           have hlt' : (k : Int) < (p.threads.length : Int) := by omega
           clear hc hcell hcode
           go_wp2_with fail
           go_loopw [9] (fun i u => RelCode p c wr i u) (fun i _ => c.length - (intOf i).toNat)
           case atStart => exact ⟨0, Nat.zero_le _, rfl, Below.refl _ _, fun j x hj => by omega⟩
           case round =>
            obtain ⟨m, hm, rfl, hb1, hZ1⟩ := hrel
            have HZ1 := Lib.hid hZ1
            clear hZ1
            have hbW : Below W.heap.size W wr := below_next hb0 hb1
            have hBw2 : Below w.heap.size w wr := hB.trans (hbW.mono (by omega))
            obtain ⟨q0, q1, q2, q3, q4, q5, q6⟩ := cells7' ((hbW.block _ hWl).trans HBx.out)
            have tc := (hBw2.cell (p := ⟨b, off + k, none⟩) hb).trans HCell.out
            clear p0 p1 p2 p3 p4 p5 p6 hcell'
            by_cases hlm : m < c.length
            ·obtain ⟨x, hx⟩ := at_lt hlm
             obtain ⟨b', off', rfl, hb', hI0⟩ := HCode.out m x hx
             obtain ⟨i0, i1, i2, i3⟩ := hI0.below hb' hBw2
             have HEx := Lib.hid hx
             have hlm' : (m : Int) < (c.length : Int) := by omega
             clear hx hI0
             have HIns := Lib.hid (fun u => refIns_any p ca ccap (some ⟨b, off, none⟩) tcap c.length x u hcl60)
             by_cases hz : insE p c.length x = 0
             ·have HI0 := Lib.hid hz
              rw [hz] at HIns
              clear hz
              go_wp2_with fail
              first
               | (go_region_held3 (fun u => u.cell? ⟨w.heap.size, 0, none⟩ = some (.int .i64 p.vars) ∧ u.cell? ⟨w.heap.size, 1, none⟩ = some (.int .i64 p.atoms) ∧ u.cell? ⟨w.heap.size, 2, none⟩ = some (.int .i64 p.locks) ∧ u.cell? ⟨w.heap.size, 3, none⟩ = some (.slice ca p.chans.length ccap) ∧ u.cell? ⟨w.heap.size, 4, none⟩ = some (.int .i64 p.groups) ∧ u.cell? ⟨w.heap.size, 5, none⟩ = some (.int .i64 p.onces) ∧ u.cell? ⟨w.heap.size, 6, none⟩ = some (.slice (some ⟨b, off, none⟩) p.threads.length tcap) ∧ u.cell? ⟨b, off + k, none⟩ = some (.slice (some ⟨b', off', none⟩) c.length cap') ∧ u.cell? ⟨b', off' + m * 4, none⟩ = some (.int .u8 x.op) ∧ u.cell? ⟨b', off' + m * 4 + 1, none⟩ = some (.int .i64 x.a) ∧ u.cell? ⟨b', off' + m * 4 + 2, none⟩ = some (.int .i64 x.b) ∧ u.cell? ⟨b', off' + m * 4 + 3, none⟩ = some (.int .i64 x.c)) (first | exact ⟨q0, q1, q2, q3, q4, q5, q6, tc, i0, i1, i2, i3⟩ | exact keep12 (by assumption) hB3)
                 (first
                  | (go_at_call 77; refine (HIns.out _).mono ?_; rintro e w3 ⟨rfl, hB3⟩)))
               | fail
              have hB4 : Below wr.heap.size wr w3 := ⟨hB3.os, hB3.tape, hB3.output, hB3.size, hB3.block⟩
              go_wp2
              go_roundw
              case rel => exact ⟨m + 1, by omega, by go_num, below_next hb1 hB4, fun j y hj hy => by
               by_cases e : j = m
               ·subst e; have := HEx.out; rw [this] at hy; cases hy; exact HI0.out
               ·exact HZ1.out j y (by omega) hy⟩
              case measure => simp [intOf]; omega
             ·have HR1 := Lib.hid (show codeE p c = insE p c.length x from firstE_map_at _ _ HEx.out hz HZ1.out)
              have HR2 := Lib.hid (show threadsE p = insE p c.length x from (firstE_map_at _ _ HE.out (by rw [HR1.out]; exact hz) HZ0.out).trans HR1.out)
              have hz' : (insE p c.length x != 0) = true := by simp [hz]
              clear hz
              generalize insE p c.length x = ee at *
              go_wp2_with fail
              first
               | (go_region_held3 (fun u => u.cell? ⟨w.heap.size, 0, none⟩ = some (.int .i64 p.vars) ∧ u.cell? ⟨w.heap.size, 1, none⟩ = some (.int .i64 p.atoms) ∧ u.cell? ⟨w.heap.size, 2, none⟩ = some (.int .i64 p.locks) ∧ u.cell? ⟨w.heap.size, 3, none⟩ = some (.slice ca p.chans.length ccap) ∧ u.cell? ⟨w.heap.size, 4, none⟩ = some (.int .i64 p.groups) ∧ u.cell? ⟨w.heap.size, 5, none⟩ = some (.int .i64 p.onces) ∧ u.cell? ⟨w.heap.size, 6, none⟩ = some (.slice (some ⟨b, off, none⟩) p.threads.length tcap) ∧ u.cell? ⟨b, off + k, none⟩ = some (.slice (some ⟨b', off', none⟩) c.length cap') ∧ u.cell? ⟨b', off' + m * 4, none⟩ = some (.int .u8 x.op) ∧ u.cell? ⟨b', off' + m * 4 + 1, none⟩ = some (.int .i64 x.a) ∧ u.cell? ⟨b', off' + m * 4 + 2, none⟩ = some (.int .i64 x.b) ∧ u.cell? ⟨b', off' + m * 4 + 3, none⟩ = some (.int .i64 x.c)) (first | exact ⟨q0, q1, q2, q3, q4, q5, q6, tc, i0, i1, i2, i3⟩ | exact keep12 (by assumption) hB3)
                 (first
                  | (go_at_call 77; refine (HIns.out _).mono ?_; rintro e w3 ⟨rfl, hB3⟩)))
               | fail
              have hB4 : Below wr.heap.size wr w3 := ⟨hB3.os, hB3.tape, hB3.output, hB3.size, hB3.block⟩
              go_wp2
              go_ret
              exact ⟨ret_int (by rw [HR.out]; exact HR2.out.symm), hB.trans ((below_next hbW hB4).mono (by omega))⟩
            ·obtain rfl : m = c.length := by omega
             have hlm' : decide ((c.length : Nat) < c.length) = false := by simp
             go_wp2
             go_roundw
             case rel => exact ⟨k + 1, by omega, by go_num, hbW, fun j d hj hd => by
              by_cases e : j = k
              ·subst e; have := HE.out; rw [this] at hd; cases hd
               exact firstE_map _ _ fun j x hj => HZ1.out j x (List.getElem?_eq_some_iff.1 hj).1 hj
              ·exact HZ0.out j d (by omega) hd⟩
             case measure => simp [intOf]; omega
          ·obtain rfl : k = p.threads.length := by omega
           go_wp2
           go_ret
           exact ⟨ret_int (by rw [HR.out]; exact (firstE_map _ _ fun j c hj => HZ0.out j c (List.getElem?_eq_some_iff.1 hj).1 hj).symm), hB.trans (hb0.mono (by omega))⟩
end Go.Proofs.Ytnbpneaiibandaa
