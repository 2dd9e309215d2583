/- What a state tells. -/
import Derived.Test.YtjlbbfkllckkgaaStateKit
namespace Go.Proofs.Ytjlbbfkllckkgaa
set_option linter.unusedVariables false
set_option linter.unusedSimpArgs false
open Go.ChangeShapes Go.WideShapes Go.ChangeAt Go.RowKit

set_option maxHeartbeats 400000 in
theorem has_any (b n : Nat) (a : Option Addr) (cap : Nat) (k : Int) (w : World) (hc : w.cell? ⟨b, 0, none⟩ = some (.slice a n cap)) :
    Calls Try.prog 25 #[.pointer (some ⟨b, 0, none⟩), .int .i64 k] w fun e w' => e = .returned (.bool (hasT n k)) ∧ w = w' := by
  go_enter Try.func25, Try.ntmps25
  go_wp2
  all_goals go_ret
  all_goals (refine ⟨?_, rfl⟩; simp [hasT]; try omega)

theorem has_yes (b n : Nat) (a : Option Addr) (cap k : Nat) (w : World) (hc : w.cell? ⟨b, 0, none⟩ = some (.slice a n cap)) (hk : k < n) :
    Calls Try.prog 25 #[.pointer (some ⟨b, 0, none⟩), .int .i64 k] w fun e w' => e = .returned (.bool true) ∧ w = w' := by
  have := has_any b n a cap k w hc
  rwa [show hasT n k = true by simp [hasT]; omega] at this
theorem has_no (b n : Nat) (a : Option Addr) (cap : Nat) (k : Int) (w : World) (hc : w.cell? ⟨b, 0, none⟩ = some (.slice a n cap)) (hk : hasT n k = false) :
    Calls Try.prog 25 #[.pointer (some ⟨b, 0, none⟩), .int .i64 k] w fun e w' => e = .returned (.bool false) ∧ w = w' := by
  have := has_any b n a cap k w hc
  rwa [hk] at this
theorem hasT_yes {n : Nat} {k : Int} (h : hasT n k = true) : ∃ j : Nat, k = j ∧ j < n := by
  simp [hasT] at h
  exact ⟨k.toNat, by omega, by omega⟩

set_option maxHeartbeats 400000 in
theorem on_yes (b n : Nat) (a : Option Addr) (cap k : Nat) (x : Bool) (w : World) (hc : w.cell? ⟨b, 0, none⟩ = some (.slice a n cap)) (hk : k < n) (hn : n ≤ 6) (hx : w.cell? ⟨b, 1 + k * 6, none⟩ = some (.bool x)) :
    Calls Try.prog 49 #[.pointer (some ⟨b, 0, none⟩), .int .i64 k] w fun e w' => e = .returned (.bool x) ∧ w = w' := by
  have hk6 : (k : Int) < 6 := by omega
  have HC := Lib.hid hc
  go_enter Try.func49, Try.ntmps49
  go_wp2_with (first
    | (go_at_call 25; refine (has_yes b n a cap k _ HC.out hk).mono ?_; rintro e w1 ⟨rfl, rfl⟩))
  go_ret
  exact ⟨rfl, rfl⟩
set_option maxHeartbeats 400000 in
theorem on_no (b n : Nat) (a : Option Addr) (cap : Nat) (k : Int) (w : World) (hc : w.cell? ⟨b, 0, none⟩ = some (.slice a n cap)) (hk : hasT n k = false) :
    Calls Try.prog 49 #[.pointer (some ⟨b, 0, none⟩), .int .i64 k] w fun e w' => e = .returned (.bool false) ∧ w = w' := by
  have HC := Lib.hid hc
  have HK := Lib.hid hk
  clear hk
  go_enter Try.func49, Try.ntmps49
  go_wp2_with (first
    | (go_at_call 25; refine (has_no b n a cap k _ HC.out HK.out).mono ?_; rintro e w1 ⟨rfl, rfl⟩))
  go_ret
  exact ⟨rfl, rfl⟩

set_option maxHeartbeats 400000 in
theorem pc_yes (b n : Nat) (a : Option Addr) (cap k : Nat) (x : Int) (w : World) (hc : w.cell? ⟨b, 0, none⟩ = some (.slice a n cap)) (hk : k < n) (hn : n ≤ 6) (hx : w.cell? ⟨b, 1 + k * 6 + 1, none⟩ = some (.int .i64 x)) :
    Calls Try.prog 13 #[.pointer (some ⟨b, 0, none⟩), .int .i64 k] w fun e w' => e = .returned (.int .i64 x) ∧ w = w' := by
  have hk6 : (k : Int) < 6 := by omega
  have HC := Lib.hid hc
  go_enter Try.func13, Try.ntmps13
  go_wp2_with (first
    | (go_at_call 25; refine (has_yes b n a cap k _ HC.out hk).mono ?_; rintro e w1 ⟨rfl, rfl⟩))
  go_ret
  exact ⟨rfl, rfl⟩
set_option maxHeartbeats 400000 in
theorem pc_no (b n : Nat) (a : Option Addr) (cap : Nat) (k : Int) (w : World) (hc : w.cell? ⟨b, 0, none⟩ = some (.slice a n cap)) (hk : hasT n k = false) :
    Calls Try.prog 13 #[.pointer (some ⟨b, 0, none⟩), .int .i64 k] w fun e w' => e = .returned (.int .i64 0) ∧ w = w' := by
  have HC := Lib.hid hc
  have HK := Lib.hid hk
  clear hk
  go_enter Try.func13, Try.ntmps13
  go_wp2_with (first
    | (go_at_call 25; refine (has_no b n a cap k _ HC.out HK.out).mono ?_; rintro e w1 ⟨rfl, rfl⟩))
  go_ret
  exact ⟨rfl, rfl⟩

set_option maxHeartbeats 400000 in
theorem register_yes (r : Nat) (hr : r < 4) (w : World) : Calls Try.prog 28 #[.int .i64 r] w fun e w' => e = .returned (.bool true) ∧ w = w' := by
  have h1 : (r : Int) < 4 := by omega
  go_enter Try.func28, Try.ntmps28
  go_wp2
  go_ret
  exact ⟨rfl, rfl⟩
set_option maxHeartbeats 400000 in
theorem reg_yes (b n : Nat) (a : Option Addr) (cap k r : Nat) (x : Int) (w : World) (hc : w.cell? ⟨b, 0, none⟩ = some (.slice a n cap)) (hk : k < n) (hn : n ≤ 6) (hr : r < 4) (hx : w.cell? ⟨b, 1 + k * 6 + 2 + r, none⟩ = some (.int .i64 x)) :
    Calls Try.prog 16 #[.pointer (some ⟨b, 0, none⟩), .int .i64 k, .int .i64 r] w fun e w' => e = .returned (.int .i64 x) ∧ w = w' := by
  have hk6 : (k : Int) < 6 := by omega
  have hr4 : (r : Int) < 4 := by omega
  have HC := Lib.hid hc
  go_enter Try.func16, Try.ntmps16
  go_wp2_with (first
    | (go_at_call 25; refine (has_yes b n a cap k _ HC.out hk).mono ?_; rintro e w1 ⟨rfl, rfl⟩)
    | (go_at_call 28; refine (register_yes r hr _).mono ?_; rintro e w2 ⟨rfl, rfl⟩))
  go_ret
  exact ⟨rfl, rfl⟩
set_option maxHeartbeats 400000 in
theorem var_yes (b x : Nat) (hx : x < 8) (v : Int) (w : World) (hc : w.cell? ⟨b, 37 + x, none⟩ = some (.int .i64 v)) :
    Calls Try.prog 20 #[.pointer (some ⟨b, 0, none⟩), .int .i64 x] w fun e w' => e = .returned (.int .i64 v) ∧ w = w' := by
  have hx8 : (x : Int) < 8 := by omega
  go_enter Try.func20, Try.ntmps20
  go_wp2
  go_ret
  exact ⟨rfl, rfl⟩
set_option maxHeartbeats 400000 in
theorem number_any (t : Bool) (w : World) : Calls Try.prog 46 #[.bool t] w fun e w' => e = .returned (.int .i64 (bitN t)) ∧ w = w' := by
  cases t
  all_goals
    go_enter Try.func46, Try.ntmps46
    go_wp2
    go_ret
    exact ⟨rfl, rfl⟩
end Go.Proofs.Ytjlbbfkllckkgaa
