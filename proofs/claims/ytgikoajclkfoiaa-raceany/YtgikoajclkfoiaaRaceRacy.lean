/- What race's Find and Racy answer: the races of a trace; are there any? -/
import Derived.Test.YtgikoajclkfoiaaRaceFind
namespace Go.Proofs.Ytgikoajclkfoiaa
set_option linter.unusedVariables false
set_option linter.unusedSimpArgs false
set_option maxRecDepth 100000
open Go.ChangeShapes Go.WideShapes Go.ChangeAt Go.RowKit Go.Maps Go.Shelf
attribute [local go_sem] Oper.semAt_some

def FindE (chans : List Int) (t : List EvD) (w : World) (e : Ending) (W' : World) : Prop := ∃ v, e = .returned v ∧ W'.ownsRow w.heap.size 43 2 v (racesL chans t).length (rcCells (racesL chans t)) ∧ Below w.heap.size w W'
theorem box7S {u : World} {g : Nat} {v0 v1 v2 v3 v4 v5 v6 : Value} {t : TypeId} {fr : Nat × Nat} (h : u.heap[g]? = some (.cells #[v0, v1, v2, v3, v4, v5, v6] t fr)) : u.cell? ⟨g, 0, none⟩ = some v0 ∧ u.cell? ⟨g, 1, none⟩ = some v1 ∧ u.cell? ⟨g, 2, none⟩ = some v2 ∧ u.cell? ⟨g, 3, none⟩ = some v3 ∧ u.cell? ⟨g, 4, none⟩ = some v4 ∧ u.cell? ⟨g, 5, none⟩ = some v5 ∧ u.cell? ⟨g, 6, none⟩ = some v6 :=
  ⟨cell_of_row _ _ 0 _ _ _ h, cell_of_row _ _ 1 _ _ _ h, cell_of_row _ _ 2 _ _ _ h, cell_of_row _ _ 3 _ _ _ h, cell_of_row _ _ 4 _ _ _ h, cell_of_row _ _ 5 _ _ _ h, cell_of_row _ _ 6 _ _ _ h⟩
theorem find_any (v0 v1 v2 : Value) (ca : Option Addr) (cc : Nat) (chans : List Int) (v4 v5 v6 : Value) (a : Option Addr) (cap : Nat) (t : List EvD) (w : World)
    (he : EvsIn w w.heap.size a t) (hw : ∀ e ∈ t, Wf e.th ∧ Wf e.obj) (hc : ChIn w ca chans) (hl : t.length ≤ 1000000) (hv : (#[v0, v1, v2, .slice ca chans.length cc, v4, v5, v6] : Array Value).all (·.oneCell') = true) :
    Calls Try.prog 13 #[.agg #[v0, v1, v2, .slice ca chans.length cc, v4, v5, v6], .slice a t.length cap] w (FindE chans t w) := by
  have HRf : Hid (∀ W : World, Calls Try.prog 19 #[.agg #[v0, v1, v2, .slice ca chans.length cc, v4, v5, v6], .slice a t.length cap] W fun e w' => e = .returned (.func (.func 22) #[] #[.pointer (some ⟨W.heap.size + 1, 0, none⟩), .pointer (some ⟨W.heap.size, 0, none⟩)]) ∧ Below W.heap.size W w' ∧ w'.heap[W.heap.size + 1]? = some (.cells #[.slice a t.length cap] 24) ∧ w'.heap[W.heap.size]? = some (.cells #[v0, v1, v2, .slice ca chans.length cc, v4, v5, v6] 32)) := Lib.hid (fun W => by
    refine ((callsIn_wide (n := 3)).1 (races_fn 3 v0 v1 v2 (.slice ca chans.length cc) v4 v5 v6 a t.length cap W hv)).mono ?_
    rintro e w' ⟨rfl, rfl⟩
    exact ⟨rfl, below_two _ _ _, heap_alloc2_new _ _ _, old_alloc (heap_alloc_new _ _) _⟩)
  simp only [List.all_toArray, List.all_cons, List.all_nil, Bool.and_true, Bool.and_eq_true] at hv
  obtain ⟨o0, o1, o2, o3, o4, o5, o6⟩ := hv
  have HAp := Lib.hid (fun (W : World) (hB : Below w.heap.size w W) (bt bp : Nat) hT hP => appendSeq_in bt bp v0 v1 v2 ca cc chans v4 v5 v6 a cap t W hT hP (he.later hB) hw (hc.later hB) hl)
  unfold FindE
  generalize racesL chans t = L at *
  clear he hw hc
  have HCo : Hid (∀ (W : World) (bt bp : Nat), Below w.heap.size w W → W.heap[bt]? = some (.cells #[.slice a t.length cap] 24) → W.heap[bp]? = some (.cells #[v0, v1, v2, .slice ca chans.length cc, v4, v5, v6] 32) → Calls Try.prog 20 #[.func (.func 22) #[] #[.pointer (some ⟨bt, 0, none⟩), .pointer (some ⟨bp, 0, none⟩)]] W fun e W' => ∃ v, e = .returned v ∧ W'.ownsRow W.heap.size 43 2 v L.length (rcCells L) ∧ Below W.heap.size W W') := Lib.hid (by
    intro W bt bp hB hT hP
    have HA := Lib.hid (HAp.out W hB bt bp hT hP)
    clear hT hP
    go_enter Try.func20, Try.ntmps20
    go_wp2_with (go_at_call 29; refine HA.out.mono ?_; rintro e w1 ⟨v, rfl, ho, hB1⟩)
    go_ret
    exact ⟨v, rfl, ho, hB1⟩)
  go_enter Try.func13, Try.ntmps13
  go_upto_region 1 with (fail)
  generalize hV : World.alloc w _ = V
  have HB := Lib.hid (show Below w.heap.size w V by rw [← hV]; exact below_box _ _)
  have HN : Hid (V.heap[w.heap.size]? = some (.cells #[v0, v1, v2, .slice ca chans.length cc, v4, v5, v6] 32)) := Lib.hid (by rw [← hV]; exact heap_alloc_new _ _)
  clear hV
  obtain ⟨p0, p1, p2, p3, p4, p5, p6⟩ := box7S HN.out
  go_wp2_with (first
    | (have _g := hBw; go_at_call 20; refine (HCo.out w1 _ _ hBw hTb hPb).mono ?_; rintro e w2 ⟨v, rfl, ho, hB2⟩)
    | (go_at_call 19; refine (HRf.out _).mono ?_; rintro e w1 ⟨rfl, hB1, hTb, hPb⟩; have hBw := below_next HB.out hB1))
  go_ret
  exact ⟨v, rfl, own_base ho hBw.size, below_next hBw hB2⟩
set_option maxHeartbeats 2000000 in
theorem racy_any (v0 v1 v2 : Value) (ca : Option Addr) (cc : Nat) (chans : List Int) (v4 v5 v6 : Value) (a : Option Addr) (cap : Nat) (t : List EvD) (w : World)
    (he : EvsIn w w.heap.size a t) (hw : ∀ e ∈ t, Wf e.th ∧ Wf e.obj) (hc : ChIn w ca chans) (hl : t.length ≤ 1000000) (hv : (#[v0, v1, v2, .slice ca chans.length cc, v4, v5, v6] : Array Value).all (·.oneCell') = true) :
    Calls Try.prog 10 #[.agg #[v0, v1, v2, .slice ca chans.length cc, v4, v5, v6], .slice a t.length cap] w fun e w' => e = .returned (.bool (decide (racesL chans t ≠ []))) ∧ Below w.heap.size w w' := by
  have HRf := Lib.hid (fun W m => races_fn m v0 v1 v2 (.slice ca chans.length cc) v4 v5 v6 a t.length cap W hv)
  simp only [List.all_toArray, List.all_cons, List.all_nil, Bool.and_true, Bool.and_eq_true] at hv
  obtain ⟨o0, o1, o2, o3, o4, o5, o6⟩ := hv
  refine (callsIn_wide (n := 3)).1 ?_
  refine callsIn_of_wp_marks Try.func10 rfl trivial ?_ rfl
  simp only [Try.ntmps10, List.size_toArray, List.length_cons, List.length_nil, Nat.reduceAdd, Nat.reduceSub, Array.replicate_succ, Array.replicate_zero, List.push_toArray, List.append_toArray, List.nil_append, List.cons_append]
  gi_wp2_with (refine ⟨trivial, ?_⟩; gi_at_call 19; refine (HRf.out _ _).mono ?_; rintro e w1 ⟨rfl, hw1⟩)
  clear hw1
  have hBw : Below w.heap.size w ((((w.alloc (.cells #[v0, v1, v2, .slice ca chans.length cc, v4, v5, v6] 32)).alloc (.cells #[.bool false] 4)).alloc (.cells #[v0, v1, v2, .slice ca chans.length cc, v4, v5, v6] 32)).alloc (.cells #[.slice a t.length cap] 24)) := below_new (below_new (below_two _ _ _) _) _
  generalize hW1 : (World.alloc (World.alloc (World.alloc (World.alloc w _) _) _) _) = u at *
  have hTb : u.heap[w.heap.size + 1 + 1 + 1]? = some (.cells #[.slice a t.length cap] 24) := by rw [← hW1]; exact alloc_atR _ _ (by simp)
  have hPb : u.heap[w.heap.size + 1 + 1]? = some (.cells #[v0, v1, v2, .slice ca chans.length cc, v4, v5, v6] 32) := by rw [← hW1]; exact old_alloc (alloc_atR _ _ (by simp)) _
  have hBx : Boxed u (w.heap.size + 1) 4 (.bool false) := by
    show u.heap[w.heap.size + 1]? = _
    rw [← hW1]; exact old_alloc (old_alloc (heap_alloc2_new _ _ _) _) _
  clear hW1
  refine rangeRaces 3 (by decide) (w.heap.size + 1 + 1 + 1) (w.heap.size + 1 + 1) w.heap.size v0 v1 v2 ca cc chans v4 v5 v6 a cap t rfl hTb hPb (he.low (low_below hBw)) hw (ChB.low (B := w.heap.size) ⟨hc.row, hc.len, hc.wf⟩ (low_below hBw)) hl hBw.size
    (fun pre W => (pre = [] ∧ Boxed W (w.heap.size + 1) 4 (.bool false)) ∧ Below w.heap.size w W)
    (fun c pre W => (c = .ret ∧ Boxed W (w.heap.size + 1) 4 (.bool true)) ∧ Below w.heap.size w W) ?_ ?_ ⟨⟨rfl, hBx⟩, hBw⟩ (fun x W => W) (fun x W => Below.refl _ _)
    (fun x W => { tmps := #[.agg #[v0, v1, v2, .slice ca chans.length cc, v4, v5, v6], .slice a t.length cap, .pointer (some ⟨w.heap.size, 0, none⟩), undef, .pointer (some ⟨w.heap.size + 1, 0, none⟩), .agg #[v0, v1, v2, .slice ca chans.length cc, v4, v5, v6], .slice a t.length cap, .func (.func 22) #[] #[.pointer (some ⟨w.heap.size + 1 + 1 + 1, 0, none⟩), .pointer (some ⟨w.heap.size + 1 + 1, 0, none⟩)], raceV x], defers := [] }) ?assign ?body ?done ?stop
  · rintro s A A' ⟨⟨h1, h2⟩, h3⟩ T
    exact ⟨⟨h1, boxed_stab h2 T⟩, h3.trans (T.below (fun k hk => Nat.le_trans hBw.size hk.1) h3.size)⟩
  · rintro c s A A' ⟨⟨h1, h2⟩, h3⟩ T
    exact ⟨⟨h1, boxed_stab h2 T⟩, h3.trans (T.below (fun k hk => Nat.le_trans hBw.size hk.1) h3.size)⟩
  case assign =>
    intro l x W K hK
    gi_wp2
    simpa using hK
  case body =>
    rintro l pre x W0 W ⟨⟨hp, hv⟩, hB⟩ hsz hpx hsW hcl
    have hc := hv.cell
    have hf := hv.frozen
    gi_wp2
    exact ⟨KeepsOthers.setCell _ _ _, ⟨rfl, hv.set _⟩, hB.setCell (p := ⟨w.heap.size + 1, 0, none⟩) (by simp) _⟩
  case done =>
    rintro D W hD ⟨⟨hp, hv⟩, hB⟩ hK
    have hX : Hid (decide (racesL chans t ≠ []) = false) := Lib.hid (by rw [hp]; rfl)
    have hc := hv.cell
    have hf := hv.frozen
    gi_wp2
    have hK' := (KeepsOthers.setCell W ⟨w.heap.size + 1, 0, none⟩ (.bool false)).same D _ hK rfl
    refine ⟨by simp, .inl ⟨_, _, rfl, run_takeDeferred hK', ?_⟩⟩
    have hc5 := cell_kept (hv.set (.bool false)).cell (grownBy_putObj' _ D (.deferred none)) (fun r e => by cases e; exact ⟨_, hK', rfl⟩)
    refine ⟨.bool false, ?_, by rw [hX.out], (hB.setCell (p := ⟨w.heap.size + 1, 0, none⟩) (by simp) _).trans (belowK_b (w := w) (Nat.le_refl _) _ D _ _ (by have := hBw.size; omega) hK' rfl rfl)⟩
    simp [results, Try.f10, go_sem, hc5]
  case stop =>
    rintro D c pre W hD hne hpre ⟨⟨rfl, hv⟩, hB⟩ hK
    have hX : Hid (decide (racesL chans t ≠ []) = true) := Lib.hid (by
      refine decide_eq_true fun h => ?_
      rw [h] at hpre
      exact hne (List.prefix_nil.1 hpre))
    have hc := hv.cell
    gi_wp2
    refine ⟨by simp, .inl ⟨_, _, rfl, run_takeDeferred hK, ?_⟩⟩
    have hc5 := cell_kept hc (grownBy_putObj' _ D (.deferred none)) (fun r e => by cases e; exact ⟨_, hK, rfl⟩)
    refine ⟨.bool true, ?_, by rw [hX.out], hB.trans (belowK_b (w := w) (Nat.le_refl _) W D _ _ (by have := hBw.size; omega) hK rfl rfl)⟩
    simp [results, Try.f10, go_sem, hc5]
end Go.Proofs.Ytgikoajclkfoiaa
