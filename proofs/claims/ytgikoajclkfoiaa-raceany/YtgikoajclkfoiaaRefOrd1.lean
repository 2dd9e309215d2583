/- The document's order: what its small functions answer. -/
import Derived.Test.YtgikoajclkfoiaaOrderDirect
import Derived.BigQuiet
namespace Go.Proofs.Ytgikoajclkfoiaa
set_option linter.unusedVariables false
set_option linter.unusedSimpArgs false
set_option maxRecDepth 100000
open Go.ChangeShapes Go.WideShapes Go.ChangeAt Go.RowKit

set_option maxHeartbeats 1000000 in
theorem rtaking_any (e : EvD) (w : World) : Calls Try.prog 31 #[e.v] w fun r w' => r = .returned (.bool (modeS 1 [21, 22] e).2) ∧ Below w.heap.size w w' := by
  obtain ⟨th, pc, op, obj, val, mode⟩ := e
  show Calls Try.prog 31 #[evV th pc op obj val mode] w _
  by_cases hm : mode = 1
  · subst hm
    by_cases h1 : op = 21
    · subst h1
      go_enter Try.func31, Try.ntmps31
      go_wp2
      go_ret
      exact ⟨rfl, below_box _ _⟩
    · have h1' : (op == 21) = false := by simpa using h1
      rcases h2 : (op == 22) with _ | _
      all_goals
        have HF := Lib.hid (show (modeS 1 [21, 22] ⟨th, pc, op, obj, val, 1⟩).2 = _ by simp only [modeS, List.contains_cons, List.contains_nil, h1', h2, Bool.false_or, Bool.or_false]; rfl)
        go_enter Try.func31, Try.ntmps31
        go_wp2
        go_ret
        exact ⟨by rw [HF.out]; rfl, below_box _ _⟩
  · have hm' : (mode == 1) = false := by simpa using hm
    have HF := Lib.hid (show (modeS 1 [21, 22] ⟨th, pc, op, obj, val, mode⟩).2 = false by simp only [modeS, hm', Bool.and_false])
    rcases h1 : (op == 21) with _ | _ <;> rcases h2 : (op == 22) with _ | _
    all_goals
      go_enter Try.func31, Try.ntmps31
      go_wp2
      go_ret
      exact ⟨by rw [HF.out]; rfl, below_box _ _⟩
theorem cnt_le (s : Sd) (x : Int) (t : List EvD) (k : Nat) : cntS s x (t.take k) ≤ k := by
  have := List.countP_le_length (p := isS s x) (l := t.take k)
  rw [List.length_take] at this
  unfold cntS; omega
theorem cnt_mono (s : Sd) (x : Int) (t : List EvD) {k n : Nat} (h : k ≤ n) : cntS s x (t.take k) ≤ cntS s x (t.take n) := by
  unfold cntS
  refine List.Sublist.countP_le ?_
  have e : t.take k = (t.take n).take k := by rw [List.take_take, Nat.min_eq_left h]
  rw [e]; exact List.take_sublist k (t.take n)
set_option maxHeartbeats 2000000 in
theorem rsends_any (a : Option Addr) (cap : Nat) (t : List EvD) (x : Int) (n : Nat) (w : World) (he : EvsIn w w.heap.size a t) (hn : n ≤ t.length) (hl : t.length ≤ 1000000) :
    Calls Try.prog 32 #[.slice a t.length cap, .int .i64 x, .int .i64 n] w fun r w' => r = .returned (.int .i64 (cntS (opsS [20]) x (t.take n))) ∧ w = w' := by
  have HE := Lib.hid he
  clear he
  go_enter Try.func32, Try.ntmps32
  go_wp2_with fail
  go_loopw [7, 8] (fun c i u => ∃ k : Nat, k ≤ n ∧ i = .int .i64 k ∧ c = .int .i64 (cntS (opsS [20]) x (t.take k)) ∧ w = u) (fun c i _ => n - (intOf i).toNat)
  case atStart => exact ⟨0, Nat.zero_le _, rfl, rfl, rfl⟩
  case round =>
    obtain ⟨k, hk, rfl, rfl, rfl⟩ := hrel
    by_cases hlt : k < n
    · obtain ⟨e, hx⟩ := at_lt (l := t) (k := k) (by omega)
      obtain ⟨g, o, rfl, hg, h0, h1, h2, h3, h4, h5⟩ := HE.out k e hx
      have hk1 : (k : Int) < (n : Int) := by omega
      have hkt : (k : Int) < (t.length : Int) := by omega
      have hcn := cnt_le (opsS [20]) x t k
      have hcn2 : cntS (opsS [20]) x (t.take k) < 9223372036854775807 := by omega
      obtain ⟨th, pc, op, obj, val, mode⟩ := e
      have hI := cnt_snoc (opsS [20]) x hx
      simp only at h2 h3
      rcases ho : (op == 20) with _ | _
      · have HI := Lib.hid (show cntS (opsS [20]) x (t.take (k + 1)) = cntS (opsS [20]) x (t.take k) by rw [hI]; simp only [isS, opsS, List.contains_cons, List.contains_nil, ho]; simp)
        clear hI hx
        go_wp2_with fail
        go_roundw
        case rel => exact ⟨k + 1, by omega, by go_num, by rw [HI.out], trivial⟩
        case measure => simp [intOf]; omega
      · rcases hy : (obj == x) with _ | _
        · have HI := Lib.hid (show cntS (opsS [20]) x (t.take (k + 1)) = cntS (opsS [20]) x (t.take k) by rw [hI]; simp only [isS, opsS, List.contains_cons, List.contains_nil, ho, hy]; simp)
          clear hI hx
          go_wp2_with fail
          go_roundw
          case rel => exact ⟨k + 1, by omega, by go_num, by rw [HI.out], trivial⟩
          case measure => simp [intOf]; omega
        · have HI := Lib.hid (show cntS (opsS [20]) x (t.take (k + 1)) = cntS (opsS [20]) x (t.take k) + 1 by rw [hI]; simp only [isS, opsS, List.contains_cons, List.contains_nil, ho, hy]; simp)
          clear hI hx
          go_wp2_with fail
          go_roundw
          case rel => exact ⟨k + 1, by omega, by go_num, by rw [HI.out]; go_num, trivial⟩
          case measure => simp [intOf]; omega
    · obtain rfl : k = n := by omega
      go_wp2
      go_ret
      exact ⟨rfl, rfl⟩
set_option maxHeartbeats 2000000 in
theorem rtakings_any (a : Option Addr) (cap : Nat) (t : List EvD) (x : Int) (n : Nat) (w : World) (he : EvsIn w w.heap.size a t) (hn : n ≤ t.length) (hl : t.length ≤ 1000000) :
    Calls Try.prog 33 #[.slice a t.length cap, .int .i64 x, .int .i64 n] w fun r w' => r = .returned (.int .i64 (cntS (modeS 1 [21, 22]) x (t.take n))) ∧ Below w.heap.size w w' := by
  have HE := Lib.hid he
  clear he
  go_enter Try.func33, Try.ntmps33
  go_wp2_with fail
  go_loopw [7, 8] (fun c i u => ∃ k : Nat, k ≤ n ∧ i = .int .i64 k ∧ c = .int .i64 (cntS (modeS 1 [21, 22]) x (t.take k)) ∧ Below w.heap.size w u) (fun c i _ => n - (intOf i).toNat)
  case atStart => exact ⟨0, Nat.zero_le _, rfl, rfl, Below.refl _ _⟩
  case round =>
    obtain ⟨k, hk, rfl, rfl, hB⟩ := hrel
    have HB := Lib.hid hB
    clear hB
    by_cases hlt : k < n
    · obtain ⟨e, hx⟩ := at_lt (l := t) (k := k) (by omega)
      obtain ⟨g, o, rfl, hg, h0, h1, h2, h3, h4, h5⟩ := (HE.out.later HB.out) k e hx
      have hk1 : (k : Int) < (n : Int) := by omega
      have hkt : (k : Int) < (t.length : Int) := by omega
      have hcn := cnt_le (modeS 1 [21, 22]) x t k
      have hcn2 : cntS (modeS 1 [21, 22]) x (t.take k) < 9223372036854775807 := by omega
      obtain ⟨th, pc, op, obj, val, mode⟩ := e
      have hI := cnt_snoc (modeS 1 [21, 22]) x hx
      have hT := rtaking_any ⟨th, pc, op, obj, val, mode⟩ wr
      simp only at h0 h1 h2 h3 h4 h5
      have HC3 := Lib.hid (fun u (hB : Below wr.heap.size wr u) => (hB.cell (p := ⟨g, o + k * 6 + 3, none⟩) hg).trans h3)
      rcases ho : (modeS 1 [21, 22] ⟨th, pc, op, obj, val, mode⟩).2 with _ | _
      · have HI := Lib.hid (show cntS (modeS 1 [21, 22]) x (t.take (k + 1)) = cntS (modeS 1 [21, 22]) x (t.take k) by rw [hI]; simp [isS, ho])
        rw [ho] at hT
        have HT := Lib.hid hT
        clear hI hx hT ho
        go_wp2_with (go_at_call 31; refine HT.out.mono ?_; rintro e w1 ⟨rfl, hB1⟩; have HB1 := Lib.hid hB1; clear hB1)
        go_roundw
        case rel => exact ⟨k + 1, by omega, by go_num, by rw [HI.out], below_next HB.out HB1.out⟩
        case measure => simp [intOf]; omega
      · rw [ho] at hT
        have HT := Lib.hid hT
        rcases hy : (obj == x) with _ | _
        · have HI := Lib.hid (show cntS (modeS 1 [21, 22]) x (t.take (k + 1)) = cntS (modeS 1 [21, 22]) x (t.take k) by rw [hI]; simp only [isS, ho]; simp [modeS, hy])
          clear hI hx hT ho
          go_wp2_with (go_at_call 31; refine HT.out.mono ?_; rintro e w1 ⟨rfl, hB1⟩; have c3 := HC3.out _ hB1; have HB1 := Lib.hid hB1; clear hB1)
          go_roundw
          case rel => exact ⟨k + 1, by omega, by go_num, by rw [HI.out], below_next HB.out HB1.out⟩
          case measure => simp [intOf]; omega
        · have HI := Lib.hid (show cntS (modeS 1 [21, 22]) x (t.take (k + 1)) = cntS (modeS 1 [21, 22]) x (t.take k) + 1 by rw [hI]; simp only [isS, ho]; simp [modeS, hy])
          clear hI hx hT ho
          go_wp2_with (go_at_call 31; refine HT.out.mono ?_; rintro e w1 ⟨rfl, hB1⟩; have c3 := HC3.out _ hB1; have HB1 := Lib.hid hB1; clear hB1)
          go_roundw
          case rel => exact ⟨k + 1, by omega, by go_num, by rw [HI.out]; go_num, below_next HB.out HB1.out⟩
          case measure => simp [intOf]; omega
    · obtain rfl : k = n := by omega
      go_wp2
      go_ret
      exact ⟨rfl, HB.out⟩
set_option maxHeartbeats 2000000 in
theorem rwrites_any (a : Option Addr) (cap : Nat) (t : List EvD) (i j : Nat) (e : EvD) (w : World) (he : EvsIn w w.heap.size a t) (hi : t[i]? = some e) (hij : i < j) (hj : j < t.length) (hl : t.length ≤ 1000000) :
    Calls Try.prog 30 #[.slice a t.length cap, .int .i64 i, .int .i64 j] w fun r w' => r = .returned (.bool (decide (cntS (opsS [18, 19]) e.obj (t.take (i + 1)) < cntS (opsS [18, 19]) e.obj (t.take j)))) ∧ Below w.heap.size w w' := by
  have HE := Lib.hid he
  clear he
  obtain ⟨g, o, rfl, hg, _, _, _, b3, _, _⟩ := HE.out i e hi
  have hit : (i : Int) < (t.length : Int) := by omega
  go_enter Try.func30, Try.ntmps30
  go_wp2_with fail
  go_loopw [7] (fun i' u => ∃ k d : Nat, i < k ∧ k ≤ j ∧ i' = .int .i64 k ∧ cntS (opsS [18, 19]) e.obj (t.take k) = cntS (opsS [18, 19]) e.obj (t.take (i + 1)) ∧ u = w.drewN d) (fun i _ => j - (intOf i).toNat)
  case atStart => exact ⟨i + 1, 0, by omega, by omega, by go_num, rfl, rfl⟩
  case round =>
    obtain ⟨k, d, hik, hk, rfl, hc, rfl⟩ := hrel
    have HC := Lib.hid hc
    clear hc
    by_cases hlt : k < j
    · obtain ⟨e', hx⟩ := at_lt (l := t) (k := k) (by omega)
      obtain ⟨g', o', he', hg', h0, h1, h2, h3, h4, h5⟩ := HE.out k e' hx
      cases he'
      have hk1 : (k : Int) < (j : Int) := by omega
      have hkt : (k : Int) < (t.length : Int) := by omega
      have hI := cnt_snoc (opsS [18, 19]) e.obj hx
      have HMn := Lib.hid (cnt_mono (opsS [18, 19]) e.obj t (show k + 1 ≤ j by omega))
      obtain ⟨th, pc, op, obj, val, mode⟩ := e'
      simp only at h2 h3
      clear h0 h1 h4 h5
      by_cases ho : op = 18 ∨ op = 19
      · rcases hy : (obj == e.obj) with _ | _
        · have HI := Lib.hid (show cntS (opsS [18, 19]) e.obj (t.take (k + 1)) = cntS (opsS [18, 19]) e.obj (t.take k) by rw [hI]; simp [isS, opsS, hy])
          clear hI hx
          rcases ho with rfl | rfl
          all_goals
            go_upto_region 4 with fail
            go_quiet (fail)
            go_wp2
            go_roundw
            case rel => exact ⟨k + 1, _, by omega, by omega, by go_num, by rw [HI.out]; exact HC.out, rfl⟩
            case measure => simp [intOf]; omega
        · have HI := Lib.hid (show cntS (opsS [18, 19]) e.obj (t.take (k + 1)) = cntS (opsS [18, 19]) e.obj (t.take k) + 1 by rw [hI]; rcases ho with rfl | rfl <;> simp [isS, opsS, hy])
          have HD : Hid (decide (cntS (opsS [18, 19]) e.obj (t.take (i + 1)) < cntS (opsS [18, 19]) e.obj (t.take j)) = true) := Lib.hid (decide_eq_true (by have := HI.out; have := HMn.out; have := HC.out; omega))
          clear hI hx
          rcases ho with rfl | rfl
          all_goals
            go_upto_region 4 with fail
            go_quiet (fail)
            go_wp2
            go_ret
            exact ⟨by rw [HD.out]; rfl, by first | exact below_draws (below_draws (Below.refl _ _) _) _ | exact below_draws (Below.refl _ _) _⟩
      · have h1 : (op == 18) = false := by simp; omega
        have h2' : (op == 19) = false := by simp; omega
        have HI := Lib.hid (show cntS (opsS [18, 19]) e.obj (t.take (k + 1)) = cntS (opsS [18, 19]) e.obj (t.take k) by rw [hI]; simp only [isS, opsS, List.contains_cons, List.contains_nil, h1, h2']; simp)
        clear hI hx
        go_upto_region 4 with fail
        go_quiet (fail)
        go_wp2
        go_roundw
        case rel => exact ⟨k + 1, _, by omega, by omega, by go_num, by rw [HI.out]; exact HC.out, rfl⟩
        case measure => simp [intOf]; omega
    · obtain rfl : k = j := by omega
      have HD : Hid (decide (cntS (opsS [18, 19]) e.obj (t.take (i + 1)) < cntS (opsS [18, 19]) e.obj (t.take k)) = false) := Lib.hid (decide_eq_false (by have := HC.out; omega))
      go_wp2
      go_ret
      exact ⟨by rw [HD.out]; rfl, by first | exact below_draws (below_draws (Below.refl _ _) _) _ | exact below_draws (Below.refl _ _) _⟩
set_option maxHeartbeats 1000000 in
theorem rroom_any (v0 v1 v2 : Value) (ca : Option Addr) (ccap : Nat) (chans : List Int) (v4 v5 v6 : Value) (x : Int) (w : World) (hc : ChIn w ca chans) (hv : (#[v0, v1, v2, .slice ca chans.length ccap, v4, v5, v6] : Array Value).all (·.oneCell') = true) :
    Calls Try.prog 34 #[.agg #[v0, v1, v2, .slice ca chans.length ccap, v4, v5, v6], .int .i64 x] w fun r w' => r = .returned (.int .i64 (roomL chans x)) ∧ Below w.heap.size w w' := by
  have hlen := hc.len
  have HC := Lib.hid hc
  clear hc
  simp only [List.all_toArray, List.all_cons, List.all_nil, Bool.and_true, Bool.and_eq_true] at hv
  obtain ⟨o0, o1, o2, o3, o4, o5, o6⟩ := hv
  by_cases h0 : x < 0
  · have h0' : decide (x < 0) = true := decide_eq_true h0
    have HF := Lib.hid (show roomL chans x = 0 by unfold roomL; rw [if_pos (.inl h0)])
    go_enter Try.func34, Try.ntmps34
    go_wp2
    go_ret
    exact ⟨by rw [HF.out]; rfl, below_box _ _⟩
  · have h0' : decide (x < 0) = false := decide_eq_false h0
    by_cases h1 : (chans.length : Int) ≤ x
    · have h1' : decide ((chans.length : Int) ≤ x) = true := decide_eq_true h1
      have HF := Lib.hid (show roomL chans x = 0 by unfold roomL; rw [if_pos (.inr h1)])
      go_enter Try.func34, Try.ntmps34
      go_wp2
      go_ret
      exact ⟨by rw [HF.out]; rfl, below_box _ _⟩
    · have h1' : decide ((chans.length : Int) ≤ x) = false := decide_eq_false h1
      obtain ⟨k, rfl⟩ : ∃ k : Nat, x = k := ⟨x.toNat, by omega⟩
      obtain ⟨y, hy⟩ := at_lt (l := chans) (k := k) (by omega)
      obtain ⟨g, o, rfl, hg, hcell⟩ := (HC.out.later (below_box w (.cells #[v0, v1, v2, .slice ca chans.length ccap, v4, v5, v6] 32))).row k y hy
      have HF := Lib.hid (show roomL chans k = y by unfold roomL; rw [if_neg (by omega)]; simp [hy])
      have hkl : (k : Int) < (chans.length : Int) := by omega
      clear hy
      go_enter Try.func34, Try.ntmps34
      go_wp2
      go_ret
      exact ⟨by rw [HF.out]; rfl, below_box _ _⟩
end Go.Proofs.Ytgikoajclkfoiaa
