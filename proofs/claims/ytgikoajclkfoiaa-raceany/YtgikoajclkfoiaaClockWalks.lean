/- What the calls of package clock return that only read (At, Within, Same), and the document's own. -/
import Derived.Test.YtgikoajclkfoiaaRowBase
import Derived.Test.YtgikoajclkfoiaaOwnBase
import Derived.Lib.Hide
import Derived.RegionTactic
import Derived.ChangeAlike
import Derived.Deep.QuietTactic
import Derived.BigQuiet
import Derived.Laws.OwnMore
import Derived.Test.YtgikoajclkfoiaaClockMath
namespace Go.Proofs.Ytgikoajclkfoiaa
set_option linter.unusedVariables false
set_option linter.unusedSimpArgs false
set_option maxRecDepth 100000
open Go.ChangeShapes Go.WideShapes Go.ChangeAt Go.RowKit

set_option maxHeartbeats 400000 in
theorem cAt_any (l : List Int) (a : Option Addr) (cap B : Nat) (i : Int) (w : World) (ha : RowOf .i64 w B a l) :
    Calls Try.prog 44 #[.slice a l.length cap, .int .i64 i] w fun e w' => e = .returned (.int .i64 (atL l i)) ∧ w = w' := by
  by_cases h0 : i < 0
  · have HX := Lib.hid (show atL l i = 0 by unfold atL; rw [if_pos h0])
    clear ha
    go_enter Try.func44, Try.ntmps44
    go_wp2
    go_ret
    exact ⟨by rw [HX.out]; rfl, rfl⟩
  · obtain ⟨k, rfl⟩ := Int.eq_ofNat_of_zero_le (by omega : 0 ≤ i)
    rw [atL_nat]
    by_cases hk : k < l.length
    · obtain ⟨x, hx⟩ := at_len hk
      obtain ⟨b, off, rfl, _, hc⟩ := ha k x hx
      have HX := Lib.hid (atN_some hx)
      have hk' : ¬ ((l.length : Int) ≤ (k : Int)) := by omega
      clear ha hx h0
      go_enter Try.func44, Try.ntmps44
      go_wp2
      go_ret
      exact ⟨by rw [HX.out]; rfl, rfl⟩
    · have HX := Lib.hid (atN_past (l := l) (k := k) (by omega))
      have hk' : ((l.length : Int) ≤ (k : Int)) := by omega
      clear ha h0
      go_enter Try.func44, Try.ntmps44
      go_wp2
      go_ret
      exact ⟨by rw [HX.out]; rfl, rfl⟩
theorem cAt_nat (l : List Int) (a : Option Addr) (cap B : Nat) (k : Nat) (x : Int) (w : World) (ha : RowOf .i64 w B a l) (hx : atN l k = x) :
    Calls Try.prog 44 #[.slice a l.length cap, .int .i64 k] w fun e w' => e = .returned (.int .i64 x) ∧ w = w' := by
  have := cAt_any l a cap B k w ha
  rwa [atL_nat, hx] at this

end Go.Proofs.Ytgikoajclkfoiaa
