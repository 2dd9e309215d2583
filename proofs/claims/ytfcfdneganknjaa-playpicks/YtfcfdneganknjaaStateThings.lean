/- What is done with a thread, a lock, a channel, a group, a once. -/
import Derived.Test.YtfcfdneganknjaaStateSet
namespace Go.Proofs.Ytfcfdneganknjaa
set_option linter.unusedVariables false
set_option linter.unusedSimpArgs false
set_option maxRecDepth 100000
open Go.ChangeShapes Go.WideShapes Go.ChangeAt Go.RowKit

set_option maxHeartbeats 400000 in
theorem begin_any (b o : Nat) (t : Bool) (w : World) (h1 : w.cell? ⟨b, o, none⟩ = some (.bool t)) (hf : w.frozen? ⟨b, o, none⟩ = false)  :
    Calls Try.prog 73 #[.pointer (some ⟨b, o, none⟩)] w fun e w' => e = .returned (.bool (!t)) ∧ Below w.heap.size (w.setCell ⟨b, o, none⟩ (.bool true)) w' := by
  go_enter Try.func73, Try.ntmps73
  go_wp2
  go_ret
  exact ⟨rfl, Below.refl _ _⟩
set_option maxHeartbeats 400000 in
theorem change_lock (b o : Nat) (t : Bool) (w : World) (h1 : w.cell? ⟨b, o, none⟩ = some (.bool t)) (hf : w.frozen? ⟨b, o, none⟩ = false)  :
    Calls Try.prog 74 #[.pointer (some ⟨b, o, none⟩), .int .u8 13] w fun e w' => e = .returned (.bool true) ∧ Below w.heap.size (w.setCell ⟨b, o, none⟩ (.bool true)) w' := by
  go_enter Try.func74, Try.ntmps74
  go_wp2
  go_ret
  exact ⟨rfl, Below.refl _ _⟩
set_option maxHeartbeats 400000 in
theorem change_rlock (b o : Nat) (r : Int) (w : World) (h1 : w.cell? ⟨b, o + 1, none⟩ = some (.int .i64 r)) (hf : w.frozen? ⟨b, o + 1, none⟩ = false)  :
    Calls Try.prog 74 #[.pointer (some ⟨b, o, none⟩), .int .u8 15] w fun e w' => e = .returned (.bool true) ∧ Below w.heap.size (w.setCell ⟨b, o + 1, none⟩ (.int .i64 (wrap64 (r + 1)))) w' := by
  go_enter Try.func74, Try.ntmps74
  go_wp2
  go_ret
  exact ⟨rfl, Below.refl _ _⟩
set_option maxHeartbeats 400000 in
theorem change_unlock_yes (b o : Nat)  (w : World) (h1 : w.cell? ⟨b, o, none⟩ = some (.bool true)) (hf : w.frozen? ⟨b, o, none⟩ = false)  :
    Calls Try.prog 74 #[.pointer (some ⟨b, o, none⟩), .int .u8 14] w fun e w' => e = .returned (.bool true) ∧ Below w.heap.size (w.setCell ⟨b, o, none⟩ (.bool false)) w' := by
  go_enter Try.func74, Try.ntmps74
  go_wp2
  go_ret
  exact ⟨rfl, Below.refl _ _⟩
set_option maxHeartbeats 400000 in
theorem change_unlock_no (b o : Nat)  (w : World) (h1 : w.cell? ⟨b, o, none⟩ = some (.bool false))  :
    Calls Try.prog 74 #[.pointer (some ⟨b, o, none⟩), .int .u8 14] w fun e w' => e = .returned (.bool false) ∧ Below w.heap.size w w' := by
  go_enter Try.func74, Try.ntmps74
  go_wp2
  go_ret
  exact ⟨rfl, Below.refl _ _⟩
set_option maxHeartbeats 400000 in
theorem change_runlock_yes (b o : Nat) (r : Int) (w : World) (h1 : w.cell? ⟨b, o + 1, none⟩ = some (.int .i64 r)) (hf : w.frozen? ⟨b, o + 1, none⟩ = false) (hr : (r == 0) = false) :
    Calls Try.prog 74 #[.pointer (some ⟨b, o, none⟩), .int .u8 16] w fun e w' => e = .returned (.bool true) ∧ Below w.heap.size (w.setCell ⟨b, o + 1, none⟩ (.int .i64 (wrap64 (r - 1)))) w' := by
  go_enter Try.func74, Try.ntmps74
  go_wp2
  go_ret
  exact ⟨rfl, Below.refl _ _⟩
set_option maxHeartbeats 400000 in
theorem change_runlock_no (b o : Nat) (r : Int) (w : World) (h1 : w.cell? ⟨b, o + 1, none⟩ = some (.int .i64 0))  :
    Calls Try.prog 74 #[.pointer (some ⟨b, o, none⟩), .int .u8 16] w fun e w' => e = .returned (.bool false) ∧ Below w.heap.size w w' := by
  go_enter Try.func74, Try.ntmps74
  go_wp2
  go_ret
  exact ⟨rfl, Below.refl _ _⟩
set_option maxHeartbeats 400000 in
theorem grow_yes (b o : Nat) (g n : Int) (w : World) (h1 : w.cell? ⟨b, o, none⟩ = some (.int .i64 g)) (hf : w.frozen? ⟨b, o, none⟩ = false) (hr : ¬ wrap64 (g + n) < 0) :
    Calls Try.prog 76 #[.pointer (some ⟨b, o, none⟩), .int .i64 n] w fun e w' => e = .returned (.bool true) ∧ Below w.heap.size (w.setCell ⟨b, o, none⟩ (.int .i64 (wrap64 (g + n)))) w' := by
  go_enter Try.func76, Try.ntmps76
  go_wp2
  go_ret
  exact ⟨rfl, Below.refl _ _⟩
set_option maxHeartbeats 400000 in
theorem grow_no (b o : Nat) (g n : Int) (w : World) (h1 : w.cell? ⟨b, o, none⟩ = some (.int .i64 g)) (hr : wrap64 (g + n) < 0) :
    Calls Try.prog 76 #[.pointer (some ⟨b, o, none⟩), .int .i64 n] w fun e w' => e = .returned (.bool false) ∧ Below w.heap.size w w' := by
  go_enter Try.func76, Try.ntmps76
  go_wp2
  go_ret
  exact ⟨rfl, Below.refl _ _⟩
set_option maxHeartbeats 400000 in
theorem onceBegin_yes (b o : Nat)  (w : World) (h1 : w.cell? ⟨b, o, none⟩ = some (.int .u8 0)) (hf : w.frozen? ⟨b, o, none⟩ = false)  :
    Calls Try.prog 78 #[.pointer (some ⟨b, o, none⟩)] w fun e w' => e = .returned (.bool true) ∧ Below w.heap.size (w.setCell ⟨b, o, none⟩ (.int .u8 1)) w' := by
  go_enter Try.func78, Try.ntmps78
  go_wp2
  go_ret
  exact ⟨rfl, Below.refl _ _⟩
set_option maxHeartbeats 400000 in
theorem onceBegin_no (b o : Nat) (g : Int) (w : World) (h1 : w.cell? ⟨b, o, none⟩ = some (.int .u8 g)) (hg : (g == 0) = false) :
    Calls Try.prog 78 #[.pointer (some ⟨b, o, none⟩)] w fun e w' => e = .returned (.bool false) ∧ Below w.heap.size w w' := by
  go_enter Try.func78, Try.ntmps78
  go_wp2
  go_ret
  exact ⟨rfl, Below.refl _ _⟩
set_option maxHeartbeats 400000 in
theorem onceEnd_yes (b o : Nat)  (w : World) (h1 : w.cell? ⟨b, o, none⟩ = some (.int .u8 1)) (hf : w.frozen? ⟨b, o, none⟩ = false)  :
    Calls Try.prog 79 #[.pointer (some ⟨b, o, none⟩)] w fun e w' => e = .returned (.bool true) ∧ Below w.heap.size (w.setCell ⟨b, o, none⟩ (.int .u8 2)) w' := by
  go_enter Try.func79, Try.ntmps79
  go_wp2
  go_ret
  exact ⟨rfl, Below.refl _ _⟩
set_option maxHeartbeats 400000 in
theorem onceEnd_no (b o : Nat) (g : Int) (w : World) (h1 : w.cell? ⟨b, o, none⟩ = some (.int .u8 g)) (hg : (g == 1) = false) :
    Calls Try.prog 79 #[.pointer (some ⟨b, o, none⟩)] w fun e w' => e = .returned (.bool false) ∧ Below w.heap.size w w' := by
  go_enter Try.func79, Try.ntmps79
  go_wp2
  go_ret
  exact ⟨rfl, Below.refl _ _⟩
set_option maxHeartbeats 400000 in
theorem close_any (b o : Nat) (t : Bool) (w : World) (h1 : w.cell? ⟨b, o + 5, none⟩ = some (.bool t)) (hf : w.frozen? ⟨b, o + 5, none⟩ = false)  :
    Calls Try.prog 91 #[.pointer (some ⟨b, o, none⟩)] w fun e w' => e = .returned (.bool (!t)) ∧ Below w.heap.size (w.setCell ⟨b, o + 5, none⟩ (.bool true)) w' := by
  go_enter Try.func91, Try.ntmps91
  go_wp2
  go_ret
  exact ⟨rfl, Below.refl _ _⟩
set_option maxHeartbeats 400000 in
theorem put_no (b o : Nat) (n : Int) (w : World) (h1 : w.cell? ⟨b, o + 5, none⟩ = some (.bool true))  :
    Calls Try.prog 89 #[.pointer (some ⟨b, o, none⟩), .int .i64 n] w fun e w' => e = .returned (.bool false) ∧ Below w.heap.size w w' := by
  go_enter Try.func89, Try.ntmps89
  go_wp2
  go_ret
  exact ⟨rfl, Below.refl _ _⟩
end Go.Proofs.Ytfcfdneganknjaa
