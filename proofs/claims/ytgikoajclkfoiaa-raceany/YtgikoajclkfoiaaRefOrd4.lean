/- What the document's Before answers. -/
import Derived.Test.YtgikoajclkfoiaaRefOrd3
namespace Go.Proofs.Ytgikoajclkfoiaa
set_option linter.unusedVariables false
set_option linter.unusedSimpArgs false
set_option maxRecDepth 100000
open Go.ChangeShapes Go.WideShapes Go.ChangeAt Go.RowKit

set_option maxHeartbeats 2000000 in
theorem rbefore_any (v0 v1 v2 : Value) (ca : Option Addr) (ccap : Nat) (chans : List Int) (v4 v5 v6 : Value) (a : Option Addr) (cap : Nat) (t : List EvD) (i j : Int) (w : World) (hc : ChIn w ca chans) (he : EvsIn w w.heap.size a t) (hl : t.length ≤ 1000000) (hv : (#[v0, v1, v2, .slice ca chans.length ccap, v4, v5, v6] : Array Value).all (·.oneCell') = true) :
    Calls Try.prog 18 #[.agg #[v0, v1, v2, .slice ca chans.length ccap, v4, v5, v6], .slice a t.length cap, .int .i64 i, .int .i64 j] w fun e w' => e = .returned (.bool (befI chans t i j)) ∧ Below w.heap.size w w' := by
  have HC := Lib.hid hc
  have HE := Lib.hid he
  have HVV := Lib.hid hv
  clear hc he
  simp only [List.all_toArray, List.all_cons, List.all_nil, Bool.and_true, Bool.and_eq_true] at hv
  obtain ⟨o0, o1, o2, o3, o4, o5, o6⟩ := hv
  rcases hr : riseB i j t.length with _ | _
  · have HF : Hid (befI chans t i j = false) := Lib.hid (by unfold befI; rw [hr]; rfl)
    have hn : ¬ (0 ≤ i ∧ i < j ∧ j < t.length) := by rw [← riseB_iff, hr]; simp
    by_cases q0 : i < 0
    · have q0' : decide (i < 0) = true := decide_eq_true q0
      go_enter Try.func18, Try.ntmps18
      go_wp2
      go_ret
      exact ⟨by rw [HF.out]; rfl, below_box _ _⟩
    · have q0' : decide (i < 0) = false := decide_eq_false q0
      by_cases q1 : j ≤ i
      · have q1' : decide (j ≤ i) = true := decide_eq_true q1
        go_enter Try.func18, Try.ntmps18
        go_wp2
        go_ret
        exact ⟨by rw [HF.out]; rfl, below_box _ _⟩
      · have q1' : decide (j ≤ i) = false := decide_eq_false q1
        have q2' : decide ((t.length : Int) ≤ j) = true := decide_eq_true (by omega)
        go_enter Try.func18, Try.ntmps18
        go_wp2
        go_ret
        exact ⟨by rw [HF.out]; rfl, below_box _ _⟩
  · obtain ⟨r1, r2, r3⟩ := riseB_iff.1 hr
    obtain ⟨i, rfl⟩ : ∃ k : Nat, i = k := ⟨i.toNat, by omega⟩
    obtain ⟨j, rfl⟩ : ∃ k : Nat, j = k := ⟨j.toNat, by omega⟩
    have q0' : decide ((i : Int) < 0) = false := decide_eq_false (by omega)
    have q1' : decide ((j : Int) ≤ (i : Int)) = false := decide_eq_false (by omega)
    have q2' : decide ((t.length : Int) ≤ (j : Int)) = false := decide_eq_false (by omega)
    have q1n : decide (j ≤ i) = false := decide_eq_false (by omega)
    have q2n : decide (t.length ≤ j) = false := decide_eq_false (by omega)
    have hit : (i : Int) < (t.length : Int) := by omega
    have HM := Lib.hid (fun W (hB : Below w.heap.size w W) => marks_any v0 v1 v2 ca ccap chans v4 v5 v6 a cap t j W (HC.out.later hB) (HE.out.later hB) hl HVV.out)
    have HB0 := Lib.hid (below_box w (.cells #[v0, v1, v2, .slice ca chans.length ccap, v4, v5, v6] 32))
    clear hr r1 r2
    rcases hb : befI chans t i j with _ | _
    all_goals
      have HBq := Lib.hid hb
      clear hb
      go_enter Try.func18, Try.ntmps18
      go_wp2_with (go_at_call 16; refine (HM.out _ HB0.out).mono ?_; rintro e w1 ⟨g, rfl, ho, hB1⟩; have c1 := ho.cellAt i (by omega); rw [List.getElem?_map, mkI_at _ (by omega), HBq.out] at c1; simp only [Option.map_some, if_true, Bool.false_eq_true, if_false] at c1)
      go_ret
      exact ⟨rfl, below_next HB0.out hB1⟩
theorem past_marks (chans : List Int) (t : List EvD) (j : Int) : (List.range t.length).filter (fun i => befI chans t (i : Nat) j) = pastI chans t j := by
  unfold pastI
  by_cases h : 0 ≤ j ∧ j < t.length
  · rw [if_pos h]
    obtain ⟨k, rfl⟩ : ∃ k : Nat, j = k := ⟨j.toNat, by omega⟩
    simp only [Int.toNat_natCast]
    refine rise_eq (List.Pairwise.filter _ List.pairwise_lt_range) (mks_rise (dirB_up chans t) k k (Nat.le_refl _)) fun x => ?_
    rw [List.mem_filter, List.mem_range, past_mem (dirB_up _ _)]
    constructor
    · rintro ⟨h1, h2⟩
      unfold befI at h2
      rw [Bool.and_eq_true] at h2
      exact (befB_iff (dirB_up _ _)).1 (by simpa using h2.2)
    · intro h2
      have := h2.lt (dirB_up _ _)
      refine ⟨by omega, ?_⟩
      unfold befI
      rw [Bool.and_eq_true]
      exact ⟨riseB_iff.2 ⟨by omega, by omega, by omega⟩, by simpa using (befB_iff (dirB_up _ _)).2 h2⟩
  · rw [if_neg h, List.filter_eq_nil_iff]
    intro x hx h2
    unfold befI at h2
    rw [Bool.and_eq_true] at h2
    have := riseB_iff.1 h2.1
    omega
end Go.Proofs.Ytgikoajclkfoiaa
