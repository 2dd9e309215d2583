/- The laws' same, of equal rows. No statement of its own. -/
import Derived.Test.YtkhhkjinlkpdlaaOrderTrace
namespace Go.Proofs.Ytkhhkjinlkpdlaa
set_option linter.unusedVariables false
set_option linter.unusedSimpArgs false
set_option maxRecDepth 100000
open Go.ChangeShapes Go.WideShapes Go.ChangeAt Go.RowKit

theorem rowOf_own {V : World} {base : Nat} {e : TypeId} {a : Option Addr} {n c : Nat} {l : List Int} (h : V.ownsRow base e 1 (.slice a n c) n (l.map (.int .i64 ·))) : RowOf .i64 V V.heap.size a l := by
  intro i x hx
  obtain ⟨g, rfl, hc⟩ := own_cellB h (i := i) (v := .int .i64 x) (by rw [List.getElem?_map, hx]; rfl)
  exact ⟨g, 0, rfl, cell_lt hc, by simpa using hc⟩
set_option maxHeartbeats 1000000 in
theorem same7_yes (a b : Option Addr) (ca cb : Nat) (l : List Int) (A B : Nat) (w : World) (ha : RowOf .i64 w A a l) (hb : RowOf .i64 w B b l) (hl : l.length ≤ 1000) :
    Calls Try.prog 14 #[.slice a l.length ca, .slice b l.length cb] w fun e w' => e = .returned (.bool true) ∧ ∃ n, w' = w.drewN n := by
  have hne : ((l.length : Int) != (l.length : Int)) = false := by simp
  go_enter Try.func14, Try.ntmps14
  go_wp2
  go_loopw [5] (fun i wr => ∃ k n : Nat, k ≤ l.length ∧ i = .int .i64 k ∧ wr = w.drewN n) (fun i _ => l.length - (intOf i).toNat)
  case atStart => exact ⟨0, 0, Nat.zero_le _, rfl, rfl⟩
  case round =>
    obtain ⟨k, n, hk, rfl, rfl⟩ := hrel
    by_cases hlt : k < l.length
    · obtain ⟨x, hx⟩ := at_lt hlt
      obtain ⟨b1, o1, rfl, _, hc1⟩ := ha k x hx
      obtain ⟨b2, o2, rfl, _, hc2⟩ := hb k x hx
      clear hx
      have hlt' : (k : Int) < (l.length : Int) := by omega
      have hxx : (x != x) = false := by simp
      go_wp2
      go_quiet (fail)
      go_wp2
      go_roundw
      case rel => exact ⟨k + 1, _, by omega, by go_num, rfl⟩
      case measure => simp [intOf]; omega
    · obtain rfl : k = l.length := by omega
      go_wp2
      go_ret
      exact ⟨rfl, n, rfl⟩

end Go.Proofs.Ytkhhkjinlkpdlaa
