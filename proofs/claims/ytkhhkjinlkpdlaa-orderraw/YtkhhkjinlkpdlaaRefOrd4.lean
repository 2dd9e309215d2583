/- What the document's Before and Past answer; the laws' tells. -/
import Derived.Test.YtkhhkjinlkpdlaaRefOrd3
import Derived.Test.YtkhhkjinlkpdlaaOrderSame
namespace Go.Proofs.Ytkhhkjinlkpdlaa
set_option linter.unusedVariables false
set_option linter.unusedSimpArgs false
set_option maxRecDepth 100000
open Go.ChangeShapes Go.WideShapes Go.ChangeAt Go.RowKit

set_option maxHeartbeats 2000000 in
theorem rbefore_any (v0 v1 v2 : Value) (ca : Option Addr) (ccap : Nat) (chans : List Int) (v4 v5 v6 : Value) (a : Option Addr) (cap : Nat) (t : List EvD) (i j : Int) (w : World) (hc : ChIn w ca chans) (he : EvsIn w w.heap.size a t) (hl : t.length ≤ 1000000) (hv : (#[v0, v1, v2, .slice ca chans.length ccap, v4, v5, v6] : Array Value).all (·.oneCell') = true) :
    Calls Try.prog 13 #[.agg #[v0, v1, v2, .slice ca chans.length ccap, v4, v5, v6], .slice a t.length cap, .int .i64 i, .int .i64 j] w fun e w' => e = .returned (.bool (befI chans t i j)) ∧ Below w.heap.size w w' := by
  have HC := Lib.hid hc
  have HE := Lib.hid he
  have HVV := Lib.hid hv
  clear hc he
  simp only [List.all_toArray, List.all_cons, List.all_nil, Bool.and_true, Bool.and_eq_true] at hv
  obtain ⟨o0, o1, o2, o3, o4, o5, o6⟩ := hv
  rcases hr : riseB i j t.length with _ | _
  · have HF : Hid (befI chans t i j = false) := Lib.hid (by unfold befI; rw [hr]; rfl)
    have hn : ¬ (0 ≤ i ∧ i < j ∧ j < t.length) := by rw [← riseB_iff, hr]; simp
    by_cases q0 : i < 0
    · have q0' : decide (i < 0) = true := decide_eq_true q0
      go_enter Try.func13, Try.ntmps13
      go_wp2
      go_ret
      exact ⟨by rw [HF.out]; rfl, below_box _ _⟩
    · have q0' : decide (i < 0) = false := decide_eq_false q0
      by_cases q1 : j ≤ i
      · have q1' : decide (j ≤ i) = true := decide_eq_true q1
        go_enter Try.func13, Try.ntmps13
        go_wp2
        go_ret
        exact ⟨by rw [HF.out]; rfl, below_box _ _⟩
      · have q1' : decide (j ≤ i) = false := decide_eq_false q1
        have q2' : decide ((t.length : Int) ≤ j) = true := decide_eq_true (by omega)
        go_enter Try.func13, Try.ntmps13
        go_wp2
        go_ret
        exact ⟨by rw [HF.out]; rfl, below_box _ _⟩
  · obtain ⟨r1, r2, r3⟩ := riseB_iff.1 hr
    obtain ⟨i, rfl⟩ : ∃ k : Nat, i = k := ⟨i.toNat, by omega⟩
    obtain ⟨j, rfl⟩ : ∃ k : Nat, j = k := ⟨j.toNat, by omega⟩
    have q0' : decide ((i : Int) < 0) = false := decide_eq_false (by omega)
    have q1' : decide ((j : Int) ≤ (i : Int)) = false := decide_eq_false (by omega)
    have q2' : decide ((t.length : Int) ≤ (j : Int)) = false := decide_eq_false (by omega)
    have q1n : decide (j ≤ i) = false := decide_eq_false (by omega)
    have q2n : decide (t.length ≤ j) = false := decide_eq_false (by omega)
    have hit : (i : Int) < (t.length : Int) := by omega
    have HM := Lib.hid (fun W (hB : Below w.heap.size w W) => marks_any v0 v1 v2 ca ccap chans v4 v5 v6 a cap t j W (HC.out.later hB) (HE.out.later hB) hl HVV.out)
    have HB0 := Lib.hid (below_box w (.cells #[v0, v1, v2, .slice ca chans.length ccap, v4, v5, v6] 30))
    clear hr r1 r2
    rcases hb : befI chans t i j with _ | _
    all_goals
      have HBq := Lib.hid hb
      clear hb
      go_enter Try.func13, Try.ntmps13
      go_wp2_with (go_at_call 27; refine (HM.out _ HB0.out).mono ?_; rintro e w1 ⟨g, rfl, ho, hB1⟩; have c1 := ho.cellAt i (by omega); rw [List.getElem?_map, mkI_at _ (by omega), HBq.out] at c1; simp only [Option.map_some, if_true, Bool.false_eq_true, if_false] at c1)
      go_ret
      exact ⟨rfl, below_next HB0.out hB1⟩
theorem past_marks (chans : List Int) (t : List EvD) (j : Int) : (List.range t.length).filter (fun i => befI chans t (i : Nat) j) = pastI chans t j := by
  unfold pastI
  by_cases h : 0 ≤ j ∧ j < t.length
  · rw [if_pos h]
    obtain ⟨k, rfl⟩ : ∃ k : Nat, j = k := ⟨j.toNat, by omega⟩
    simp only [Int.toNat_natCast]
    refine rise_eq (List.Pairwise.filter _ List.pairwise_lt_range) (mks_rise (dirB_up chans t) k k (Nat.le_refl _)) fun x => ?_
    rw [List.mem_filter, List.mem_range, past_mem (dirB_up _ _)]
    constructor
    · rintro ⟨h1, h2⟩
      unfold befI at h2
      rw [Bool.and_eq_true] at h2
      exact (befB_iff (dirB_up _ _)).1 (by simpa using h2.2)
    · intro h2
      have := h2.lt (dirB_up _ _)
      refine ⟨by omega, ?_⟩
      unfold befI
      rw [Bool.and_eq_true]
      exact ⟨riseB_iff.2 ⟨by omega, by omega, by omega⟩, by simpa using (befB_iff (dirB_up _ _)).2 h2⟩
  · rw [if_neg h, List.filter_eq_nil_iff]
    intro x hx h2
    unfold befI at h2
    rw [Bool.and_eq_true] at h2
    have := riseB_iff.1 h2.1
    omega
set_option maxHeartbeats 4000000 in
theorem rpast_any (v0 v1 v2 : Value) (ca : Option Addr) (ccap : Nat) (chans : List Int) (v4 v5 v6 : Value) (a : Option Addr) (cap : Nat) (t : List EvD) (j : Int) (w : World) (hc : ChIn w ca chans) (he : EvsIn w w.heap.size a t) (hl : t.length ≤ 1000000) (hv : (#[v0, v1, v2, .slice ca chans.length ccap, v4, v5, v6] : Array Value).all (·.oneCell') = true) :
    Calls Try.prog 16 #[.agg #[v0, v1, v2, .slice ca chans.length ccap, v4, v5, v6], .slice a t.length cap, .int .i64 j] w (PastE chans t j w) := by
  obtain ⟨tj, hj0, jz0, jz1, jz2⟩ := info_parts info_intT
  have HC := Lib.hid hc
  have HE := Lib.hid he
  have HVV := Lib.hid hv
  clear hc he
  simp only [List.all_toArray, List.all_cons, List.all_nil, Bool.and_true, Bool.and_eq_true] at hv
  obtain ⟨o0, o1, o2, o3, o4, o5, o6⟩ := hv
  have HM := Lib.hid (fun W (hB : Below w.heap.size w W) => marks_any v0 v1 v2 ca ccap chans v4 v5 v6 a cap t j W (HC.out.later hB) (HE.out.later hB) hl HVV.out)
  have HB0 := Lib.hid (below_box w (.cells #[v0, v1, v2, .slice ca chans.length ccap, v4, v5, v6] 30))
  have HPM := Lib.hid (past_marks chans t j)
  unfold PastE
  generalize pastI chans t j = PI at *
  generalize hs : (fun i : Nat => befI chans t (i : Nat) j) = s at *
  have HM2 : Hid (∀ W, Below w.heap.size w W → Calls Try.prog 27 #[.agg #[v0, v1, v2, .slice ca chans.length ccap, v4, v5, v6], .slice a t.length cap, .int .i64 j] W fun e V => ∃ g, e = .returned (.slice (some ⟨g, 0, none⟩) t.length t.length) ∧ V.ownsRow W.heap.size 3 1 (.slice (some ⟨g, 0, none⟩) t.length t.length) t.length ((mkI s t.length).map (.int .i64 ·)) ∧ Below W.heap.size W V) := Lib.hid fun W hB => by
    have h := HM.out W hB
    unfold MarksE at h
    rw [hs] at h
    exact h
  clear HM hs
  go_enter Try.func16, Try.ntmps16
  go_upto_region 3 with (go_at_call 27; refine (HM2.out _ HB0.out).mono ?_; rintro e w1 ⟨g, rfl, ho, hB1⟩)
  have HO := Lib.hid ho
  have HB1 := Lib.hid (below_next HB0.out hB1)
  have HP0 : Hid (PastR w1 s 0 (.slice none 0 0) w1) := Lib.hid ⟨none, 0, rfl, World.ownsRow_nil _ _ _ _, Below.refl _ _⟩
  clear ho hB1
  go_wp2_with fail
  go_loopw [9, 7] (fun k v V => ∃ n : Nat, n ≤ t.length ∧ k = .int .i64 n ∧ PastR w1 s n v V) (fun k _ _ => t.length - (intOf k).toNat)
  case atStart => exact ⟨0, Nat.zero_le _, rfl, HP0.out⟩
  case round =>
    obtain ⟨n, hn1, rfl, pa, pc, rfl, hpo, hpB⟩ := hrel
    have HPO := Lib.hid hpo
    have HPB := Lib.hid hpB
    clear hpo hpB
    by_cases hlt1 : n < t.length
    · have hlt1' : (n : Int) < (t.length : Int) := by omega
      have hcg := (own_later HO.out HPB.out).cellAt n (by omega)
      rw [List.getElem?_map, mkI_at _ hlt1] at hcg
      have hfl : (List.range (n + 1)).filter s = (List.range n).filter s ++ (if s n then [n] else []) := by
        rw [List.range_succ, List.filter_append]
        congr 1
        cases hb : s n <;> simp [hb]
      have hlen : ((List.range n).filter s).length ≤ n := Nat.le_trans (List.length_filter_le _ _) (by simp)
      rcases hb : s n with _ | _
      · have HFL2 := Lib.hid (show (List.range (n + 1)).filter s = (List.range n).filter s from by rw [hfl, hb]; simp)
        rw [hb] at hcg
        simp only [Option.map_some, Bool.false_eq_true, if_false] at hcg
        clear hfl hb
        go_wp2_with fail
        go_roundw
        case rel => exact ⟨n + 1, by omega, by go_num, pa, pc, by rw [HFL2.out], by rw [HFL2.out]; exact HPO.out, HPB.out⟩
        case measure => simp [intOf]; omega
      · have HFL := Lib.hid (show (List.range (n + 1)).filter s = (List.range n).filter s ++ [n] from by rw [hfl, hb]; simp)
        rw [hb] at hcg
        simp only [Option.map_some, if_true] at hcg
        clear hfl hb
        generalize hfn : (List.range n).filter s = fl at *
        have hbs : w1.heap.size ≤ wr.heap.size := HPB.out.size
        go_wp2_with (first
          | (at_builtin; refine wpList_append_own_at _ rfl _ _ 27 rfl w1.heap.size 3 tj (.int .i64 0) 1 8 Try.underlying27 hj0 jz0 jz1 jz2 rfl (by decide) (.slice pa fl.length pc) fl.length ((ofN fl).map (.int .i64 ·)) rfl (own_later HPO.out (below_box wr _)) ⟨wr.heap.size, 0, none⟩ 1 1 [.int .i64 n] rfl rfl (cell_one_i wr _ _) (by simp [Value.oneCell']) (by unfold maxLen; omega) (by omega) (by simp; omega) ?_; intro v6 w6 hown6 hgrow6 _ hat6
             have HB6 : Hid (Below w1.heap.size w1 w6) := Lib.hid ((below_new HPB.out (.cells #[.int .i64 n] 3)).trans ((Below.refl _ _).grown hgrow6 (by simp; omega) (fun g e => (own_lt HPO.out g e).2)))
             obtain ⟨xa, xc, rfl⟩ := own_slice0 hown6
             have HO6 := Lib.hid hown6
             clear hown6 hgrow6 hat6))
        go_roundw
        case rel => exact ⟨n + 1, by omega, by go_num, xa, xc, by rw [HFL.out]; simp, by rw [HFL.out]; simpa [ofN] using HO6.out, HB6.out⟩
        case measure => simp [intOf]; omega
    · obtain rfl : n = t.length := by omega
      go_wp2_with fail
      go_ret
      refine ⟨pa, pc, by rw [← HPM.out]; rfl, ?_, below_next HB1.out HPB.out⟩
      rw [← HPM.out]
      exact own_base HPO.out HB1.out.size
set_option maxHeartbeats 4000000 in
theorem tells7_any (v0 v1 v2 : Value) (ca : Option Addr) (ccap : Nat) (chans : List Int) (v4 v5 v6 : Value) (a : Option Addr) (cap : Nat) (t : List EvD) (w : World) (hc : ChIn w ca chans) (he : EvsIn w w.heap.size a t) (hW : ∀ e ∈ t, EvW e) (hl : t.length ≤ 1000) (hcap : t.length ≤ cap) (hv : (#[v0, v1, v2, .slice ca chans.length ccap, v4, v5, v6] : Array Value).all (·.oneCell') = true) :
    Calls Try.prog 17 #[.agg #[v0, v1, v2, .slice ca chans.length ccap, v4, v5, v6], .slice a t.length cap] w fun e w' => e = .returned (.bool true) ∧ Below w.heap.size w w' := by
  have HPn : Hid (∀ j : Int, (pastI chans t j).length ≤ 1000) := Lib.hid fun j => by
    rw [← past_marks]
    refine Nat.le_trans (List.length_filter_le _ _) ?_
    rw [List.length_range]; exact hl
  have HR := Lib.hid (fun W (hB : Below w.heap.size w W) (j : Int) => rpast_any v0 v1 v2 ca ccap chans v4 v5 v6 a cap t j W (hc.later hB) (he.later hB) (by omega) hv)
  have HP := Lib.hid (fun W (hB : Below w.heap.size w W) (j : Int) => past_any v0 v1 v2 ca ccap chans v4 v5 v6 a cap t j W (hc.later hB) (he.later hB) hW hl hcap hv)
  simp only [List.all_toArray, List.all_cons, List.all_nil, Bool.and_true, Bool.and_eq_true] at hv
  obtain ⟨o0, o1, o2, o3, o4, o5, o6⟩ := hv
  unfold PastE at HR HP
  generalize pastI chans t = P at *
  clear hc he hW
  go_enter Try.func17, Try.ntmps17
  go_upto_region 1 with (fail)
  generalize hV : World.alloc w _ = V
  have HB := Lib.hid (show Below w.heap.size w V by rw [← hV]; exact below_box _ _)
  have HN : Hid (V.heap[w.heap.size]? = some (.cells #[v0, v1, v2, .slice ca chans.length ccap, v4, v5, v6] 30)) := Lib.hid (by rw [← hV]; exact heap_alloc_new _ _)
  clear hV
  go_wp2_with fail
  go_loopw [5] (fun k u => ∃ n : Nat, n ≤ t.length ∧ k = .int .i64 n ∧ Below V.heap.size V u) (fun k _ => t.length - (intOf k).toNat)
  case atStart => exact ⟨0, Nat.zero_le _, rfl, Below.refl _ _⟩
  case round =>
    obtain ⟨n, hn1, rfl, hB⟩ := hrel
    have HB1 := Lib.hid hB
    clear hB
    by_cases hlt : n < t.length
    · have hlt' : (n : Int) < (t.length : Int) := by omega
      have HPl := Lib.hid (HPn.out n)
      have hRn := HR.out wr (below_next HB.out HB1.out) n
      have hPn := fun W (hB : Below w.heap.size w W) => HP.out W hB n
      generalize P (n : Int) = l at *
      rw [← ofN_len l] at hRn hPn HPl
      generalize ofN l = L at *
      have HRn := Lib.hid hRn
      have HPP := Lib.hid hPn
      clear hRn hPn
      obtain ⟨p0, p1, p2, p3, p4, p5, p6⟩ := box7R (old_later HN.out HB1.out)
      go_wp2_with (first
        | (have _g := HX2; go_at_call 14; refine (same7_yes _ _ _ _ L _ _ _ HX2.out HX1.out HPl.out).mono ?_; rintro e w5 ⟨rfl, nd, rfl⟩; have HB4 := Lib.hid (below_drewN HB3.out nd))
        | (have _g := HX1; go_at_call 15; refine (HPP.out _ (below_next HB.out (below_next HB1.out HB2.out))).mono ?_; rintro e w4 ⟨qa, qc, rfl, ho, hB⟩; have HX2 := Lib.hid (rowOf_own ho); have HX1 := Lib.hid (HX1.out.up hB); have HB3 := Lib.hid (below_next HB2.out hB); clear hB ho)
        | (go_at_call 16; refine HRn.out.mono ?_; rintro e w3 ⟨pa, pc, rfl, ho, hB⟩; have HX1 := Lib.hid (rowOf_own ho); have HB2 := Lib.hid hB; obtain ⟨p0, p1, p2, p3, p4, p5, p6⟩ := box7R (old_later HN.out (below_next HB1.out hB)); clear hB ho))
      go_roundw
      case rel => exact ⟨n + 1, by omega, by go_num, below_next HB1.out HB4.out⟩
      case measure => simp [intOf]; omega
    · obtain rfl : n = t.length := by omega
      go_wp2_with fail
      go_ret
      exact ⟨rfl, below_next HB.out HB1.out⟩
end Go.Proofs.Ytkhhkjinlkpdlaa
