/- What a state tells. -/
import Derived.Test.YtfcfdneganknjaaStateKit
namespace Go.Proofs.Ytfcfdneganknjaa
set_option linter.unusedVariables false
set_option linter.unusedSimpArgs false
open Go.ChangeShapes Go.WideShapes Go.ChangeAt Go.RowKit

set_option maxHeartbeats 400000 in
theorem has_any (b n : Nat) (a : Option Addr) (cap : Nat) (k : Int) (w : World) (hc : w.cell? ⟨b, 0, none⟩ = some (.slice a n cap)) :
    Calls Try.prog 83 #[.pointer (some ⟨b, 0, none⟩), .int .i64 k] w fun e w' => e = .returned (.bool (hasT n k)) ∧ w = w' := by
  go_enter Try.func83, Try.ntmps83
  go_wp2
  all_goals go_ret
  all_goals (refine ⟨?_, rfl⟩; simp [hasT]; try omega)

theorem has_yes (b n : Nat) (a : Option Addr) (cap k : Nat) (w : World) (hc : w.cell? ⟨b, 0, none⟩ = some (.slice a n cap)) (hk : k < n) :
    Calls Try.prog 83 #[.pointer (some ⟨b, 0, none⟩), .int .i64 k] w fun e w' => e = .returned (.bool true) ∧ w = w' := by
  have := has_any b n a cap k w hc
  rwa [show hasT n k = true by simp [hasT]; omega] at this
theorem has_no (b n : Nat) (a : Option Addr) (cap : Nat) (k : Int) (w : World) (hc : w.cell? ⟨b, 0, none⟩ = some (.slice a n cap)) (hk : hasT n k = false) :
    Calls Try.prog 83 #[.pointer (some ⟨b, 0, none⟩), .int .i64 k] w fun e w' => e = .returned (.bool false) ∧ w = w' := by
  have := has_any b n a cap k w hc
  rwa [hk] at this
theorem hasT_yes {n : Nat} {k : Int} (h : hasT n k = true) : ∃ j : Nat, k = j ∧ j < n := by
  simp [hasT] at h
  exact ⟨k.toNat, by omega, by omega⟩

set_option maxHeartbeats 400000 in
theorem on_yes (b n : Nat) (a : Option Addr) (cap k : Nat) (x : Bool) (w : World) (hc : w.cell? ⟨b, 0, none⟩ = some (.slice a n cap)) (hk : k < n) (hn : n ≤ 6) (hx : w.cell? ⟨b, 1 + k * 6, none⟩ = some (.bool x)) :
    Calls Try.prog 60 #[.pointer (some ⟨b, 0, none⟩), .int .i64 k] w fun e w' => e = .returned (.bool x) ∧ w = w' := by
  have hk6 : (k : Int) < 6 := by omega
  have HC := Lib.hid hc
  go_enter Try.func60, Try.ntmps60
  go_wp2_with (first
    | (go_at_call 83; refine (has_yes b n a cap k _ HC.out hk).mono ?_; rintro e w1 ⟨rfl, rfl⟩))
  go_ret
  exact ⟨rfl, rfl⟩
set_option maxHeartbeats 400000 in
theorem on_no (b n : Nat) (a : Option Addr) (cap : Nat) (k : Int) (w : World) (hc : w.cell? ⟨b, 0, none⟩ = some (.slice a n cap)) (hk : hasT n k = false) :
    Calls Try.prog 60 #[.pointer (some ⟨b, 0, none⟩), .int .i64 k] w fun e w' => e = .returned (.bool false) ∧ w = w' := by
  have HC := Lib.hid hc
  have HK := Lib.hid hk
  clear hk
  go_enter Try.func60, Try.ntmps60
  go_wp2_with (first
    | (go_at_call 83; refine (has_no b n a cap k _ HC.out HK.out).mono ?_; rintro e w1 ⟨rfl, rfl⟩))
  go_ret
  exact ⟨rfl, rfl⟩

set_option maxHeartbeats 400000 in
theorem number_any (t : Bool) (w : World) : Calls Try.prog 77 #[.bool t] w fun e w' => e = .returned (.int .i64 (bitN t)) ∧ w = w' := by
  cases t
  all_goals
    go_enter Try.func77, Try.ntmps77
    go_wp2
    go_ret
    exact ⟨rfl, rfl⟩
end Go.Proofs.Ytfcfdneganknjaa
