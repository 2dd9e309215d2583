/- What order's Past answers. -/
import Derived.Test.YtkhhkjinlkpdlaaOrderBefore
namespace Go.Proofs.Ytkhhkjinlkpdlaa
set_option linter.unusedVariables false
set_option linter.unusedSimpArgs false
set_option maxRecDepth 100000
open Go.ChangeShapes Go.WideShapes Go.ChangeAt Go.RowKit Go.Maps

def pastI (chans : List Int) (t : List EvD) (j : Int) : List Nat := if 0 ≤ j ∧ j < (t.length : Int) then pastL (dirB chans t) j.toNat else []
def PastE (chans : List Int) (t : List EvD) (j : Int) (w : World) (e : Ending) (V : World) : Prop :=
  ∃ (a : Option Addr) (c : Nat), e = .returned (.slice a (pastI chans t j).length c) ∧ V.ownsRow w.heap.size 3 1 (.slice a (pastI chans t j).length c) (pastI chans t j).length ((ofN (pastI chans t j)).map (.int .i64 ·)) ∧ Below w.heap.size w V
def PastR (W : World) (s : Nat → Bool) (n : Nat) (v : Value) (V : World) : Prop := ∃ (a : Option Addr) (c : Nat), v = .slice a ((List.range n).filter s).length c ∧ V.ownsRow W.heap.size 3 1 v ((List.range n).filter s).length ((ofN ((List.range n).filter s)).map (.int .i64 ·)) ∧ Below W.heap.size W V
set_option maxHeartbeats 2000000 in
theorem past_any (v0 v1 v2 : Value) (ca : Option Addr) (ccap : Nat) (chans : List Int) (v4 v5 v6 : Value) (a : Option Addr) (cap : Nat) (t : List EvD) (j : Int) (w : World) (hc : ChIn w ca chans) (he : EvsIn w w.heap.size a t) (hW : ∀ e ∈ t, EvW e) (hl : t.length ≤ 1000) (hcap : t.length ≤ cap) (hv : (#[v0, v1, v2, .slice ca chans.length ccap, v4, v5, v6] : Array Value).all (·.oneCell') = true) :
    Calls Try.prog 15 #[.agg #[v0, v1, v2, .slice ca chans.length ccap, v4, v5, v6], .slice a t.length cap, .int .i64 j] w (PastE chans t j w) := by
  obtain ⟨tj, hj0, jz0, jz1, jz2⟩ := info_parts info_intT
  have HC := Lib.hid hc
  have HE := Lib.hid he
  have HW := Lib.hid hW
  have HV := Lib.hid hv
  clear hc he hW
  simp only [List.all_toArray, List.all_cons, List.all_nil, Bool.and_true, Bool.and_eq_true] at hv
  obtain ⟨o0, o1, o2, o3, o4, o5, o6⟩ := hv
  by_cases hn : j < 0
  · have hn' : decide (j < 0) = true := decide_eq_true hn
    have HF : Hid (pastI chans t j = []) := Lib.hid (by unfold pastI; rw [if_neg (by omega)])
    go_enter Try.func15, Try.ntmps15
    go_wp2
    go_ret
    refine ⟨none, 0, by rw [HF.out]; rfl, ?_, below_box _ _⟩
    rw [HF.out]; exact World.ownsRow_nil _ _ _ _
  have hn' : decide (j < 0) = false := decide_eq_false hn
  by_cases hh : (t.length : Int) ≤ j
  · have hh' : decide ((t.length : Int) ≤ j) = true := decide_eq_true hh
    have HF : Hid (pastI chans t j = []) := Lib.hid (by unfold pastI; rw [if_neg (by omega)])
    go_enter Try.func15, Try.ntmps15
    go_wp2
    go_ret
    refine ⟨none, 0, by rw [HF.out]; rfl, ?_, below_box _ _⟩
    rw [HF.out]; exact World.ownsRow_nil _ _ _ _
  have hh' : decide ((t.length : Int) ≤ j) = false := decide_eq_false hh
  obtain ⟨j, rfl⟩ : ∃ k : Nat, j = k := ⟨j.toNat, by omega⟩
  have hjl : j < t.length := by omega
  have HF : Hid (pastI chans t j = pastL (dirB chans t) j) := Lib.hid (by unfold pastI; rw [if_pos (by omega)]; simp)
  have hlt : (t.take (j + 1)).length = j + 1 := by rw [List.length_take]; omega
  have hBk := fun W (hB : Below w.heap.size w W) => back_any v0 v1 v2 ca ccap chans v4 v5 v6 a cap (t.take (j + 1)) W (HC.out.later hB) ((HE.out.later hB).take _) (fun e he => HW.out e (List.mem_of_mem_take he)) (by omega) (by omega) (by omega) HV.out
  rw [hlt] at hBk
  have HBk := Lib.hid hBk
  have hjc : ((j : Int) + 1) ≤ (cap : Int) := by omega
  have hjN : j + 1 ≤ cap := by omega
  have hwr : IntKind.i64.wrap ((j : Int) + 1) = (j : Int) + 1 := IntWalk.i64_in _ ⟨by omega, by omega⟩
  have hjT : ((j : Int) + 1).toNat = j + 1 := by omega
  have hj0' : (0 : Int) ≤ (j : Int) + 1 := by omega
  clear hBk
  go_enter Try.func15, Try.ntmps15
  go_upto_region 4 with (fail)
  generalize hU : World.alloc w _ = U
  have HU := Lib.hid (show Below w.heap.size w U by rw [← hU]; exact below_box _ _)
  have HNU : Hid (U.drew.heap[w.heap.size]? = some (.cells #[v0, v1, v2, .slice ca chans.length ccap, v4, v5, v6] 30)) := Lib.hid (by rw [← hU]; exact heap_alloc_new _ _)
  clear hU
  have KU := box7 HNU.out
  go_region_held3 (fun u => u.cell? ⟨w.heap.size, 0, none⟩ = some v0 ∧ u.cell? ⟨w.heap.size, 1, none⟩ = some v1 ∧ u.cell? ⟨w.heap.size, 2, none⟩ = some v2 ∧ u.cell? ⟨w.heap.size, 3, none⟩ = some (.slice ca chans.length ccap) ∧ u.cell? ⟨w.heap.size, 4, none⟩ = some v4 ∧ u.cell? ⟨w.heap.size, 5, none⟩ = some v5 ∧ u.cell? ⟨w.heap.size, 6, none⟩ = some v6) (first | with_reducible exact KU | with_reducible exact KW | fail)
    (first
      | (go_at_call 19; refine (HBk.out _ HU.out.drew).mono ?_; rintro e w2 ⟨a', cap', seen, rfl, hsl, hown, hsn, hB2⟩; have KW := box7 (old_later HNU.out hB2); rw [hlt] at hsl hsn hown; rw [hlt]))
  have HS := Lib.hid hsn
  have HO := Lib.hid hown
  have HB2 := Lib.hid (below_next HU.out.drew hB2)
  have HP0 : Hid (PastR w2 (fun i => (seen[i]?).getD false) 0 (.slice none 0 0) w2) := Lib.hid ⟨none, 0, rfl, World.ownsRow_nil _ _ _ _, Below.refl _ _⟩
  have HLR : Hid ((List.range (j + 1)).filter (fun i => (seen[i]?).getD false) = pastL (dirB chans t) j) := Lib.hid (by
    rw [← past_take (t := t)]
    refine past_of (dirB_up _ _) _ fun i hi => ?_
    rw [hsn i hi, Nat.add_sub_cancel]
    simp only [Option.getD_some]
    exact befB_iff (dirB_up _ _))
  clear hsn hown hB2 KU KW
  go_wp2_with fail
  go_loopw [25, 7] (fun k v V => ∃ n : Nat, n ≤ j + 1 ∧ k = .int .i64 n ∧ PastR w2 (fun i => (seen[i]?).getD false) n v V) (fun k _ _ => (j + 1) - (intOf k).toNat)
  case atStart => exact ⟨0, Nat.zero_le _, rfl, HP0.out⟩
  case round =>
    obtain ⟨n, hn1, rfl, pa, pc, rfl, hpo, hpB⟩ := hrel
    have HPO := Lib.hid hpo
    have HPB := Lib.hid hpB
    clear hpo hpB
    by_cases hlt1 : n < j + 1
    · have hlt1' : (n : Int) < (j : Int) + 1 := by omega
      obtain ⟨b, hb⟩ := at_lt (l := seen) (k := n) (by omega)
      obtain ⟨g, rfl, hcg⟩ := own_cellB (own_later HO.out HPB.out) (i := n) (v := .bool b) (by rw [List.getElem?_map, hb]; rfl)
      have hfl : (List.range (n + 1)).filter (fun i => (seen[i]?).getD false) = (List.range n).filter (fun i => (seen[i]?).getD false) ++ (if b then [n] else []) := by
        rw [List.range_succ, List.filter_append]
        congr 1
        cases b <;> simp [hb]
      have HFL := Lib.hid hfl
      have hlen : ((List.range n).filter (fun i => (seen[i]?).getD false)).length ≤ n := Nat.le_trans (List.length_filter_le _ _) (by simp)
      clear hfl hb
      rcases b with _ | _
      · have HFL2 := Lib.hid (show (List.range (n + 1)).filter (fun i => (seen[i]?).getD false) = (List.range n).filter (fun i => (seen[i]?).getD false) from by rw [HFL.out]; simp)
        go_wp2_with fail
        go_roundw
        case rel => exact ⟨n + 1, by omega, by go_num, pa, pc, by rw [HFL2.out], by rw [HFL2.out]; exact HPO.out, HPB.out⟩
        case measure => simp [intOf]; omega
      · generalize hfn : (List.range n).filter (fun i => (seen[i]?).getD false) = fl at *
        have hbs : w2.heap.size ≤ wr.heap.size := HPB.out.size
        go_wp2_with (first
          | (at_builtin; refine wpList_append_own_at _ rfl _ _ 27 rfl w2.heap.size 3 tj (.int .i64 0) 1 8 Try.underlying27 hj0 jz0 jz1 jz2 rfl (by decide) (.slice pa fl.length pc) fl.length ((ofN fl).map (.int .i64 ·)) rfl (own_later HPO.out (below_box wr _)) ⟨wr.heap.size, 0, none⟩ 1 1 [.int .i64 n] rfl rfl (cell_one_i wr _ _) (by simp [Value.oneCell']) (by unfold maxLen; omega) (by omega) (by simp; omega) ?_; intro v6 w6 hown6 hgrow6 _ hat6
             have HB6 : Hid (Below w2.heap.size w2 w6) := Lib.hid ((below_new HPB.out (.cells #[.int .i64 n] 3)).trans ((Below.refl _ _).grown hgrow6 (by simp; omega) (fun g e => (own_lt HPO.out g e).2)))
             obtain ⟨xa, xc, rfl⟩ := own_slice0 hown6
             have HO6 := Lib.hid hown6
             clear hown6 hgrow6 hat6))
        go_roundw
        case rel => exact ⟨n + 1, by omega, by go_num, xa, xc, by rw [HFL.out]; simp, by rw [HFL.out]; simpa [ofN] using HO6.out, HB6.out⟩
        case measure => simp [intOf]; omega
    · obtain rfl : n = j + 1 := by omega
      go_wp2_with fail
      go_ret
      refine ⟨pa, pc, by rw [HF.out, ← HLR.out]; rfl, ?_, below_next HB2.out HPB.out⟩
      rw [HF.out, ← HLR.out]
      exact own_base HPO.out HB2.out.size
end Go.Proofs.Ytkhhkjinlkpdlaa
