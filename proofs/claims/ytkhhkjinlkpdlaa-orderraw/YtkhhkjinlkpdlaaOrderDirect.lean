/- What order's Direct answers. -/
import Derived.Test.YtkhhkjinlkpdlaaOrderHold2
namespace Go.Proofs.Ytkhhkjinlkpdlaa
set_option linter.unusedVariables false
set_option linter.unusedSimpArgs false
set_option maxRecDepth 100000
open Go.ChangeShapes Go.WideShapes Go.ChangeAt Go.RowKit

def riseB (i j n : Int) : Bool := decide (0 ≤ i) && decide (i < j) && decide (j < n)
theorem riseB_iff {i j n : Int} : riseB i j n = true ↔ 0 ≤ i ∧ i < j ∧ j < n := by simp [riseB, and_assoc]
set_option maxHeartbeats 400000 in
theorem rising_any (i j n : Int) (w : World) : Calls Try.prog 18 #[.int .i64 i, .int .i64 j, .int .i64 n] w fun e w' => e = .returned (.bool (riseB i j n)) ∧ w = w' := by
  rcases h1 : decide (0 ≤ i) with _ | _ <;> rcases h2 : decide (i < j) with _ | _ <;> rcases h3 : decide (j < n) with _ | _
  all_goals
    have HF := Lib.hid (show riseB i j n = _ by unfold riseB; rw [h1, h2, h3])
    go_enter Try.func18, Try.ntmps18
    go_wp2_with fail
    go_ret
    exact ⟨by rw [HF.out]; rfl, rfl⟩
/-- One of the rules, as it lies. -/
theorem rules_at {Y : Nat → Prop} {w : World} {R : Array Value} {chans : List Int} (h : RulesV Y w R chans) {k : Nat} (hk : k < 10) : ∃ (r : RuD) (va vb vw : Value), (rulesL chans)[k]? = some r ∧ (∀ (kd : IntKind) (u : World), (Instr.index 51 (.agg R) (.int kd k)).run Try.prog u = .ok (.agg #[va, vb, vw]) u) ∧ SideV Y w va r.a ∧ SideV Y w vb r.b ∧ WhV Y w vw r.wh := by
  obtain ⟨r, hr⟩ : ∃ r, (rulesL chans)[k]? = some r := at_lt (by simpa [rulesL] using hk)
  obtain ⟨va, vb, vw, h1, h2, h3, h4, h5, h6⟩ := h.get k r hr
  refine ⟨r, va, vb, vw, hr, fun kd u => ?_, h4, h5, h6⟩
  have hs := h.size
  have hk' : (k : Int) < 10 := by omega
  simp [Instr.index, asIntOf, run_underlying Try.underlying51, hk', hk]
  have hsl : (R.extract (k * 3) (k * 3 + 3)) = #[va, vb, vw] := by
    apply Array.ext_getElem?
    intro i
    rw [Array.getElem?_extract]
    match i with
    | 0 => simp [h1, hs]; omega
    | 1 => simp [h2, hs]; omega
    | 2 => simp [h3, hs]; omega
    | i + 3 => simp; omega
  simp [part, hsl]
theorem side_one {Y : Nat → Prop} {w : World} {v : Value} {s : Sd} (h : SideV Y w v s) : v.oneCell' = true := by obtain ⟨_, _, rfl, _⟩ := h; rfl
theorem wh_one {Y : Nat → Prop} {w : World} {v : Value} {s : Option Wh} (h : WhV Y w v s) : v.oneCell' = true := by
  cases s with
  | none => cases h; rfl
  | some f => obtain ⟨_, _, rfl, _⟩ := h; rfl
theorem info_rule : (Try.prog.info? 50).map (·.size) = some 3 := by kernel_rfl
/-- A program's value: its channels lie. -/
structure ChIn (w : World) (ca : Option Addr) (chans : List Int) : Prop where
  row : RowOf .i64 w w.heap.size ca chans
  len : chans.length ≤ 1000000
  wf : ∀ c ∈ chans, -9223372036854775808 ≤ c ∧ c ≤ 9223372036854775807
theorem ChIn.later {w w' : World} {ca : Option Addr} {chans : List Int} (h : ChIn w ca chans) (hB : Below w.heap.size w w') : ChIn w' ca chans := ⟨h.row.up hB, h.len, h.wf⟩
def dirI (chans : List Int) (t : List EvD) (i j : Int) : Bool := riseB i j t.length && dirB chans t i.toNat j.toNat
set_option maxHeartbeats 4000000 in
theorem direct_any (v0 v1 v2 : Value) (ca : Option Addr) (ccap : Nat) (chans : List Int) (v4 v5 v6 : Value) (a : Option Addr) (cap : Nat) (t : List EvD) (i j : Int) (w : World) (hc : ChIn w ca chans) (he : EvsIn w w.heap.size a t) (hl : t.length ≤ 1000000) (hcap : t.length ≤ cap) (hv : (#[v0, v1, v2, .slice ca chans.length ccap, v4, v5, v6] : Array Value).all (·.oneCell') = true) :
    Calls Try.prog 11 #[.agg #[v0, v1, v2, .slice ca chans.length ccap, v4, v5, v6], .slice a t.length cap, .int .i64 i, .int .i64 j] w fun e w' => e = .returned (.bool (dirI chans t i j)) ∧ Below w.heap.size w w' := by
  have HC := Lib.hid hc
  have HE := Lib.hid he
  clear hc he
  simp only [List.all_toArray, List.all_cons, List.all_nil, Bool.and_true, Bool.and_eq_true] at hv
  obtain ⟨o0, o1, o2, o3, o4, o5, o6⟩ := hv
  rcases hr : riseB i j t.length with _ | _
  · have HF : Hid (dirI chans t i j = false) := Lib.hid (by unfold dirI; rw [hr]; rfl)
    have HR := Lib.hid hr
    clear hr
    go_enter Try.func11, Try.ntmps11
    go_wp2_with (go_at_call 18; refine (rising_any _ _ _ _).mono ?_; rintro e w1 ⟨rfl, rfl⟩; rw [HR.out])
    go_ret
    exact ⟨by rw [HF.out]; rfl, below_box _ _⟩
  · have HR := Lib.hid hr
    obtain ⟨r1, r2, r3⟩ := riseB_iff.1 hr
    obtain ⟨i, rfl⟩ : ∃ k : Nat, i = k := ⟨i.toNat, by omega⟩
    obtain ⟨j, rfl⟩ : ∃ k : Nat, j = k := ⟨j.toNat, by omega⟩
    have hij : i < j := by omega
    have hjl : j < t.length := by omega
    have HF : Hid (dirI chans t i j = (rulesL chans).any fun r => holdsB r t i j) := Lib.hid (by unfold dirI dirB; rw [hr]; simp [hij])
    clear hr r1 r2 r3
    go_enter Try.func11, Try.ntmps11
    go_upto_region 3 with (go_at_call 18; refine (rising_any _ _ _ _).mono ?_; rintro e w1 ⟨rfl, rfl⟩; rw [HR.out])
    go_wp2_with (go_at_call 20; refine (rules_any (fun _ => False) v0 v1 v2 ca ccap chans v4 v5 v6 _ (HC.out.later (below_box w _)).row HC.out.len HC.out.wf (fun _ h => h.elim) (fun _ _ _ _ h => h)).mono ?_; rintro e w1 ⟨R, rfl, hR, hB1⟩; have HRV := Lib.hid hR; have HW1 := Lib.hid (below_next (below_box w _) hB1); clear hR hB1)
    go_loopw [19] (fun k u => ∃ n : Nat, n ≤ 10 ∧ k = .int .i64 n ∧ Below w1.heap.size w1 u ∧ Hid (∀ m r, m < n → (rulesL chans)[m]? = some r → holdsB r t i j = false)) (fun k _ => 10 - (intOf k).toNat)
    case atStart => exact ⟨0, by omega, rfl, Below.refl _ _, Lib.hid fun m r h => absurd h (by omega)⟩
    case round =>
      obtain ⟨n, hn, rfl, hB, HN⟩ := hrel
      have HB := Lib.hid hB
      clear hB
      by_cases hlt : n < 10
      · obtain ⟨r, va, vb, vw, hr, hidx, hSa, hSb, hWw⟩ := rules_at (HRV.out.later HB.out) hlt
        have q1 := side_one hSa
        have q2 := side_one hSb
        have q3 := wh_one hWw
        have hlt' : (n : Int) < 10 := by omega
        have HSa := Lib.hid hSa
        have HSb := Lib.hid hSb
        have HWw := Lib.hid hWw
        have HRr := Lib.hid hr
        clear hSa hSb hWw hr
        go_upto_region 6 with (refine wpList_store_row rfl 50 (.tmp 10) (.tmp 21) rfl wr.heap.size #[va, vb, vw] rfl rfl 50 _ (heap_alloc_new _ _) info_rule rfl (by simp [q1, q2, q3]) ?_)
        generalize hV : World.setRow (World.alloc wr _) _ _ = V
        have hNV : V.heap[wr.heap.size]? = some (.cells #[va, vb, vw] 50) := by rw [← hV]; exact setRow_heap _ _ _ _ _ _ (heap_alloc_new _ _)
        have HV := Lib.hid (show Below wr.heap.size wr V by rw [← hV]; exact below_row (below_box _ _) (Nat.le_refl _) _)
        obtain ⟨k0, k1, k2⟩ := box3 hNV
        clear hV hNV
        have HWV := Lib.hid (below_next HW1.out (below_next HB.out HV.out))
        go_wp2_with (go_at_call 21; refine (holds_any r va vb vw a cap t i j V (HE.out.later HWV.out) hl hij hjl (HSa.out.later HV.out) (HSb.out.later HV.out) (HWw.out.later HV.out) hcap).mono ?_; rintro e w2 ⟨rfl, hB2⟩; rcases hh : holdsB r t i j with _ | _)
        · have HB2 := Lib.hid (below_next HB.out (below_next HV.out hB2))
          have HN2 : Hid (∀ m r, m < n + 1 → (rulesL chans)[m]? = some r → holdsB r t i j = false) := Lib.hid fun m r' hm hr' => by
            rcases Nat.lt_or_ge m n with q | q
            · exact HN.out m r' q hr'
            · obtain rfl : m = n := by omega
              have := HRr.out
              rw [hr'] at this
              cases this; exact hh
          clear hB2 hh
          go_wp2
          go_roundw
          case rel => exact ⟨n + 1, by omega, by go_num, HB2.out, HN2⟩
          case measure => simp [intOf]; omega
        · have HX : Hid (((rulesL chans).any fun r => holdsB r t i j) = true) := Lib.hid (List.any_eq_true.2 ⟨r, List.mem_of_getElem? HRr.out, hh⟩)
          have HB2 := Lib.hid (below_next HWV.out hB2)
          clear hB2 hh
          go_wp2
          go_ret
          exact ⟨by rw [HF.out, HX.out]; rfl, HB2.out⟩
      · obtain rfl : n = 10 := by omega
        have HX : Hid (((rulesL chans).any fun r => holdsB r t i j) = false) := Lib.hid (by
          rw [List.any_eq_false]
          intro r hr
          obtain ⟨m, hm⟩ := List.getElem?_of_mem hr
          have := (List.getElem?_eq_some_iff.1 hm).1
          rw [HN.out m r (by simpa [rulesL] using this) hm]; simp)
        go_wp2_with fail
        go_ret
        exact ⟨by rw [HF.out, HX.out]; rfl, below_next HW1.out HB.out⟩
end Go.Proofs.Ytkhhkjinlkpdlaa
