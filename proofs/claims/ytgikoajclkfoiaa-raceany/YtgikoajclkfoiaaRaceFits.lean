/- Race's fits: is a trace one that races are told of? -/
import Derived.Test.YtgikoajclkfoiaaRaceLs2
import Derived.Test.YtgikoajclkfoiaaCallKit
namespace Go.Proofs.Ytgikoajclkfoiaa
set_option linter.unusedVariables false
set_option linter.unusedSimpArgs false
set_option maxRecDepth 100000
open Go.ChangeShapes Go.WideShapes Go.ChangeAt Go.RowKit Go.Maps

def okT (e : EvD) : Bool := decide (0 ≤ e.th) && decide (e.th < 6)
theorem fit1_any (e : EvD) (w : World) : Calls Try.prog 36 #[e.v] w fun r w' => r = .returned (.bool (!okT e)) ∧ Below w.heap.size w w' := by
  obtain ⟨th, pc, op, obj, val, mode⟩ := e
  show Calls Try.prog 36 #[evV th pc op obj val mode] w _
  by_cases h0 : th < 0
  · have h0' : decide (th < 0) = true := decide_eq_true h0
    have HF : Hid ((!okT ⟨th, pc, op, obj, val, mode⟩) = true) := Lib.hid (by simp [okT]; omega)
    rw [HF.out]
    go_enter Try.func36, Try.ntmps36
    go_wp2
    go_ret
    exact ⟨rfl, below_box _ _⟩
  · have h0' : decide (th < 0) = false := decide_eq_false h0
    rcases h6 : decide (6 ≤ th) with _ | _
    · have HF : Hid ((!okT ⟨th, pc, op, obj, val, mode⟩) = false) := Lib.hid (by have := of_decide_eq_false h6; simp [okT]; omega)
      rw [HF.out]
      go_enter Try.func36, Try.ntmps36
      go_wp2
      go_ret
      exact ⟨rfl, below_box _ _⟩
    · have HF : Hid ((!okT ⟨th, pc, op, obj, val, mode⟩) = true) := Lib.hid (by have := of_decide_eq_true h6; simp [okT]; omega)
      rw [HF.out]
      go_enter Try.func36, Try.ntmps36
      go_wp2
      go_ret
      exact ⟨rfl, below_box _ _⟩
set_option maxHeartbeats 900000 in
theorem index8_any (a : Option Addr) (cap : Nat) (t : List EvD) (w : World) (he : EvsIn w w.heap.size a t) (hl : t.length ≤ 1000000) :
    Calls Try.prog 45 #[.slice a t.length cap, .func (.func 36) #[] #[]] w fun e w' => (∃ q : Int, e = .returned (.int .i64 q) ∧ decide (0 ≤ q) = !t.all okT) ∧ Below w.heap.size w w' := by
  have hcf := cf_of Try.func36 (by kernel_rfl) (by kernel_rfl)
  have HE := Lib.hid he
  have HF := Lib.hid (fun e W => fit1_any e W)
  clear he
  go_enter Try.func45, Try.ntmps45
  go_wp2_with fail
  go_loopw [8] (fun iv u => ∃ k : Nat, k ≤ t.length ∧ iv = .int .i64 k ∧ Hid ((t.take k).all okT = true) ∧ Below w.heap.size w u) (fun iv _ => t.length - (intOf iv).toNat)
  case atStart => exact ⟨0, Nat.zero_le _, rfl, Lib.hid (by simp), Below.refl _ _⟩
  case round =>
    obtain ⟨k, hk, rfl, HA, hB⟩ := hrel
    have HB := Lib.hid hB
    clear hB
    by_cases hlt : k < t.length
    · obtain ⟨e, hx⟩ := at_lt hlt
      obtain ⟨g, o, rfl, hg, c0, c1, c2, c3, c4, c5⟩ := (HE.out.later HB.out) k e hx
      have hk1 : (k : Int) < (t.length : Int) := by omega
      have HFe := HF.out e
      rcases hok : okT e with _ | _
      · have HR : Hid ((!t.all okT) = true) := Lib.hid (by
          rw [Bool.not_eq_true', List.all_eq_false]
          exact ⟨e, List.mem_of_getElem? hx, by rw [hok]; simp⟩)
        rw [hok] at HFe
        obtain ⟨th, pc, op, obj, val, mode⟩ := e
        have HFE := Lib.hid HFe
        clear HFe hok hx
        simp only at c0 c1 c2 c3 c4 c5
        go_wp2_with (refine (HFE.out _).mono ?_; rintro e w1 ⟨rfl, hB1⟩)
        go_ret
        exact ⟨⟨k, rfl, by rw [HR.out]; exact decide_eq_true (by omega)⟩, below_next HB.out hB1⟩
      · have HR : Hid ((t.take (k + 1)).all okT = true) := Lib.hid (by rw [List.take_add_one, hx, List.all_append, HA.out]; simp [hok])
        rw [hok] at HFe
        obtain ⟨th, pc, op, obj, val, mode⟩ := e
        have HFE := Lib.hid HFe
        clear HFe hok hx
        simp only at c0 c1 c2 c3 c4 c5
        go_wp2_with (refine (HFE.out _).mono ?_; rintro e w1 ⟨rfl, hB1⟩)
        go_roundw
        case rel => exact ⟨k + 1, by omega, by go_num, HR, below_next HB.out hB1⟩
        case measure => simp [intOf]; omega
    · obtain rfl : k = t.length := by omega
      have HR : Hid ((!t.all okT) = false) := Lib.hid (by have := HA.out; rw [List.take_length] at this; rw [this]; rfl)
      go_wp2_with fail
      go_ret
      exact ⟨⟨-1, rfl, by rw [HR.out]; rfl⟩, HB.out⟩
set_option maxHeartbeats 900000 in
theorem fits_any (a : Option Addr) (cap : Nat) (t : List EvD) (w : World) (he : EvsIn w w.heap.size a t) (hl : t.length ≤ 1000000) :
    Calls Try.prog 23 #[.slice a t.length cap] w fun e w' => e = .returned (.bool (fitsB t)) ∧ Below w.heap.size w w' := by
  have hfb : fitsB t = (decide (t.length ≤ 2000) && t.all okT) := rfl
  by_cases h2 : t.length ≤ 2000
  · have h2' : decide ((t.length : Int) ≤ 2000) = true := decide_eq_true (by omega)
    have h2n : decide (t.length ≤ 2000) = true := decide_eq_true h2
    have HI := Lib.hid (index8_any a cap t w he hl)
    have HCo : ∀ B, t.all okT = B → Calls Try.prog 35 #[.slice a t.length cap, .func (.func 36) #[] #[]] w fun e w' => e = .returned (.bool (!B)) ∧ Below w.heap.size w w' := by
      intro B hB0
      have hi := HI.out
      rw [hB0] at hi
      have HI2 := Lib.hid hi
      clear hi HI he hfb hB0
      rcases B with _ | _
      all_goals
        go_enter Try.func35, Try.ntmps35
        go_wp2_with (go_at_call 45; refine HI2.out.mono ?_; rintro e w1 ⟨⟨q, rfl, hq⟩, hB⟩; simp only [Bool.not_true, Bool.not_false] at hq)
        go_ret
        exact ⟨by rfl, hB⟩
    rcases hall : t.all okT with _ | _
    all_goals
      have HF := Lib.hid (show fitsB t = _ by rw [hfb, h2n, hall])
      have HCo := Lib.hid (HCo _ hall)
      clear hall hfb he
      go_enter Try.func23, Try.ntmps23
      go_wp2_with (go_at_call 35; refine HCo.out.mono ?_; rintro e w1 ⟨rfl, hB⟩)
      go_ret
      exact ⟨by rw [HF.out]; rfl, hB⟩
  · have h2' : decide ((t.length : Int) ≤ 2000) = false := decide_eq_false (by omega)
    have h2n : decide (t.length ≤ 2000) = false := decide_eq_false h2
    have HF := Lib.hid (show fitsB t = false by rw [hfb, h2n]; rfl)
    clear hfb he
    go_enter Try.func23, Try.ntmps23
    go_wp2
    go_ret
    exact ⟨by rw [HF.out]; rfl, Below.refl _ _⟩
end Go.Proofs.Ytgikoajclkfoiaa
